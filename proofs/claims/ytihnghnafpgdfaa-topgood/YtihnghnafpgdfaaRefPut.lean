/-
  THE WALKS OF THE DOCUMENT's ANSWER TO B2.
-/
import Derived.Test.YtihnghnafpgdfaaShelfGet
import Derived.Test.YtihnghnafpgdfaaShelfCat
namespace Go.Proofs.Ytihnghnafpgdfaa
open Go.RowKit
set_option linter.unusedVariables false
set_option linter.unusedSimpArgs false

theorem getV_none : getV none = .tuple #[.agg #[.string ⟨#[]⟩, .string ⟨#[]⟩, .int .i64 0], .bool false] := rfl
theorem getV_some (f : Fi) : getV (some f) = .tuple #[.agg #[.string f.n, .string f.t, .int .i64 f.k], .bool true] := rfl

theorem cell_three_new (w : World) (a b c : Value) (t : TypeId) : ∀ j u, [a, b, c][j]? = some u → (w.alloc (.cells #[a, b, c] t)).cell? ((⟨w.heap.size, 0, none⟩ : Addr).add j) = some u := by
  intro j u hj
  match j, hj with
  | 0, hj => simp at hj; subst hj; simp [Addr.add]
  | 1, hj => simp at hj; subst hj; simp [Addr.add]
  | 2, hj => simp at hj; subst hj; simp [Addr.add]
  | j + 3, hj => simp at hj

theorem three_one (f : Fi) : ∀ u ∈ [Value.string f.n, .string f.t, .int .i64 f.k], u.oneCell' = true := by
  intro u hu
  simp at hu
  rcases hu with rfl | rfl | rfl <;> rfl

theorem Owns.snoc {w : World} {B : Nat} {v : Value} {l : List Fi} {f : Fi} (h : w.ownsRow B 23 3 v (l.length + 1) (flat l ++ [.string f.n, .string f.t, .int .i64 f.k])) : Owns w B v (l ++ [f]) := by
  show World.ownsRow _ _ _ _ _ _ _
  rw [flat_append, List.length_append]
  exact h

theorem Owns.drewN {w : World} {B : Nat} {v : Value} {l : List Fi} (h : Owns w B v l) (n : Nat) : Owns (w.drewN n) B v l := h

theorem dropR_snoc (l : List Fi) (name : ByteArray) (k : Nat) (h : k < l.length) : dropR (l.take (k + 1)) name = dropR (l.take k) name ++ (if (l[k].n.toList == name.toList) = true then [] else [l[k]]) := by
  unfold dropR
  rw [takeSucc l k h, List.filter_append]
  cases he : l[k].n.toList == name.toList <;> simp [he]

set_option maxRecDepth 100000 in
set_option maxHeartbeats 1000000 in
theorem dropFile_any (a : Option Addr) (cap : Nat) (l : List Fi) (name : ByteArray) (w : World) (hl : l.length ≤ 100) (hc : Cells w a l) :
    Calls Try.prog 28 #[.slice a l.length cap, .string name] w fun e w' => ∃ v, e = .returned (.tuple #[v, .int .i64 (if (getF l name).isSome = true then 0 else 5)]) ∧ Owns w' w.heap.size v (if (getF l name).isSome = true then dropR l name else []) ∧ Below w.heap.size w w' := by
  obtain ⟨i0, hi, hz0, hz1, hz2⟩ := info_parts Try.infoFile
  have HC : Hid (Cells w a l) := hc
  clear hc
  cases hg : getF l name with
  | none =>
    have HG : Hid (getF l name = none) := hg
    clear hg
    go_enter Try.func28, Try.ntmps28
    go_wp2_with fail
    refine (getFile_any a cap l name _ (by unfold maxLen; omega) HC.out).mono ?_
    rintro e w1 ⟨rfl, hb⟩
    rw [HG.out, getV_none]
    have HB : Hid (Below w.heap.size w w1) := hb
    have hsz := hb.size
    clear hb
    go_wp2
    go_ret2
    exact ⟨_, rfl, World.ownsRow_nil _ _ _ _, HB.out.alloc HB.out.size _⟩
  | some f =>
    have HG : Hid (getF l name = some f) := hg
    clear hg
    go_enter Try.func28, Try.ntmps28
    go_wp2_with fail
    refine (getFile_any a cap l name _ (by unfold maxLen; omega) HC.out).mono ?_
    rintro e w1 ⟨rfl, hb⟩
    rw [HG.out, getV_some]
    have HB1 : Hid (Below w.heap.size w w1) := hb
    have hsz1 := hb.size
    clear hb
    go_wp2_with fail
    go_loopw [8, 9] (fun v i wr => ∃ k : Nat, k ≤ l.length ∧ i = .int .i64 k ∧ Owns wr w.heap.size v (dropR (l.take k) name) ∧ Below w.heap.size w wr) (fun _ i _ => l.length - (intOf i).toNat)
    case atStart => exact ⟨0, Nat.zero_le _, rfl, World.ownsRow_nil _ _ _ _, by first | exact HB1.out.alloc HB1.out.size _ | exact (((HB1.out.alloc HB1.out.size _).setCell (by simpa using HB1.out.size) _).setCell (by simpa using HB1.out.size) _).setCell (by simpa using HB1.out.size) _⟩
    case round =>
      obtain ⟨k, hk, rfl, hown, hb⟩ := hrel
      have HB : Hid (Below w.heap.size w wr) := hb
      have hsz := hb.size
      clear hb
      have HOWN : Hid (Owns wr w.heap.size u8 (dropR (l.take k) name)) := hown
      clear hown
      by_cases hlt : k < l.length
      · obtain ⟨b, off, rfl, c0, c1, c2⟩ := HC.out.below HB.out k hlt
        have hsn := dropR_snoc l name k hlt
        have hlen : (dropR (l.take k) name).length ≤ 100 := by
          unfold dropR
          have h1 := List.length_filter_le (fun g : Fi => !(g.n.toList == name.toList)) (l.take k)
          have h2 : (l.take k).length ≤ k := by simp; omega
          omega
        cases he : l[k].n.toList == name.toList
        · rw [he] at hsn
          have HSN : Hid (dropR (l.take (k + 1)) name = dropR (l.take k) name ++ [l[k]]) := hsn
          clear hsn
          have hne : (l[k].n.toList != name.toList) = true := by simp [bne, he]
          go_wp2_with (at_builtin; refine wpList_append_own _ rfl _ _ 32 rfl w.heap.size 23 i0 _ 3 40 Try.underlying32 hi hz0 hz1 hz2 rfl (by decide) _ _ _ rfl (HOWN.out.alloc _) ⟨wr.heap.size, 0, none⟩ 1 1 [.string l[k].n, .string l[k].t, .int .i64 l[k].k] rfl rfl (cell_three_new _ _ _ _ _) (three_one l[k]) (by unfold maxLen; omega) (by omega) (by simp; omega) ?_; intro v' w3 hown' hgrow3 hnil3)
          refine ⟨⟨k + 1, by omega, by go_num, ?_, ?_⟩, by simp [intOf]; omega⟩
          · rw [HSN.out]
            exact Owns.snoc hown'
          · exact (HB.out.alloc HB.out.size _).grown hgrow3 (by simp; omega) (fun q hq => (HOWN.out.lt q hq).1)
        · rw [he] at hsn
          have HSN : Hid (dropR (l.take (k + 1)) name = dropR (l.take k) name) := by show _ = _; rw [hsn]; simp
          clear hsn
          have hne : (l[k].n.toList != name.toList) = false := by simp [bne, he]
          go_wp2
          refine ⟨⟨k + 1, by omega, by go_num, ?_, HB.out⟩, by simp [intOf]; omega⟩
          rw [HSN.out]
          exact HOWN.out
      · go_wp2
        go_ret2
        have h := HOWN.out
        rw [takeAll l k (by omega)] at h
        exact ⟨_, rfl, h, HB.out⟩

/-- What the loop of PutFile makes of the rest, with a list made so far, and whether the file is laid. -/
def putS (f : Fi) : List Fi → Bool → List Fi → List Fi
  | out, laid, [] => if laid = true then out else out ++ [f]
  | out, laid, g :: r => putS f ((if laid = false ∧ ltB g.n f.n = false then out ++ [f] else out) ++ (if g.n = f.n then [] else [g])) (laid || !ltB g.n f.n) r

theorem putS_eq (f : Fi) : ∀ (l out : List Fi) (laid : Bool), putS f out laid l = out ++ putR f laid l
  | [], out, laid => by cases laid <;> simp [putS, putR]
  | g :: r, out, laid => by
    simp only [putS, putR]
    rw [putS_eq f r]
    cases laid <;> cases ltB g.n f.n <;> by_cases hn : g.n = f.n <;> simp [hn]

theorem putS_step (f : Fi) (l out : List Fi) (laid : Bool) (k : Nat) (h : k < l.length) : putS f out laid (l.drop k) = putS f ((if laid = false ∧ ltB l[k].n f.n = false then out ++ [f] else out) ++ (if l[k].n = f.n then [] else [l[k]])) (laid || !ltB l[k].n f.n) (l.drop (k + 1)) := by
  rw [List.drop_eq_getElem_cons h]; rfl

set_option maxRecDepth 100000 in
set_option maxHeartbeats 1000000 in
theorem putFile_bad (a : Option Addr) (cap : Nat) (l : List Fi) (f : Fi) (w : World) (hz : f.n.size ≤ maxLen ∧ f.t.size ≤ maxLen) (hf : f.fault ≠ 0) :
    Calls Try.prog 26 #[.slice a l.length cap, fileV f.n f.t f.k] w fun e w' => e = .returned (.tuple #[.slice none 0 0, .int .i64 f.fault]) ∧ Below w.heap.size w w' := by
  have hr := f.fault_range
  have hpos : 0 < fileF f.n.data.toList f.t.data.toList f.k := by unfold Fi.fault at *; omega
  clear hf hr
  go_enter Try.func26, Try.ntmps26
  go_wp2_with (go_at_call 18; refine (fileFault_any _ _ _ _ hz.1 hz.2).mono ?_; rintro e w' ⟨rfl, rfl⟩)
  go_ret2
  refine ⟨rfl, ?_⟩
  repeat (first | exact Below.refl _ _ | refine below_drewN ?_ _ | refine Below.drew ?_ | refine Below.alloc ?_ (by simp; try omega) _)

set_option maxRecDepth 100000 in
set_option maxHeartbeats 1000000 in
theorem putFile_full (a : Option Addr) (cap : Nat) (l : List Fi) (f : Fi) (w : World) (hz : f.n.size ≤ maxLen ∧ f.t.size ≤ maxLen) (hf : f.fault = 0) (hl : l.length ≤ 100) (hc : Cells w a l) (hg : getF l f.n = none) (h8 : 8 ≤ l.length) :
    Calls Try.prog 26 #[.slice a l.length cap, fileV f.n f.t f.k] w fun e w' => e = .returned (.tuple #[.slice none 0 0, .int .i64 7]) ∧ Below w.heap.size w w' := by
  have hzero : fileF f.n.data.toList f.t.data.toList f.k ≤ 0 := by unfold Fi.fault at *; omega
  have HC : Hid (Cells w a l) := hc
  have HG : Hid (getF l f.n = none) := hg
  clear hf hc hg
  go_enter Try.func26, Try.ntmps26
  go_wp2_with (go_at_call 18; refine (fileFault_any _ _ _ _ hz.1 hz.2).mono ?_; rintro e w' ⟨rfl, rfl⟩)
  refine (getFile_any a cap l f.n _ (by unfold maxLen; omega) (by exact (HC.out.alloc _).alloc _)).mono ?_
  rintro e w1 ⟨rfl, hb⟩
  rw [HG.out, getV_none]
  have hb' : Below w.heap.size w w1 := (((Below.refl _ _).alloc (Nat.le_refl _) _).alloc (by simp) _).trans (hb.mono (by simp; omega))
  have HB : Hid (Below w.heap.size w w1) := hb'
  clear hb hb'
  go_wp2
  go_ret2
  exact ⟨rfl, HB.out.alloc HB.out.size _⟩

set_option maxRecDepth 100000 in
set_option maxHeartbeats 2000000 in
theorem putFile_good (a : Option Addr) (cap : Nat) (l : List Fi) (f : Fi) (o : Option Fi) (w : World) (hz : f.n.size ≤ maxLen ∧ f.t.size ≤ maxLen) (hf : f.fault = 0) (hl : l.length ≤ 100) (hc : Cells w a l) (hg : getF l f.n = o) (h8 : o = none → l.length < 8) :
    Calls Try.prog 26 #[.slice a l.length cap, fileV f.n f.t f.k] w fun e w' => ∃ v, e = .returned (.tuple #[v, .int .i64 0]) ∧ Owns w' w.heap.size v (putR f false l) ∧ Below w.heap.size w w' := by
  obtain ⟨i0, hi, hz0, hz1, hz2⟩ := info_parts Try.infoFile
  have hzero : fileF f.n.data.toList f.t.data.toList f.k ≤ 0 := by unfold Fi.fault at *; omega
  have HC : Hid (Cells w a l) := hc
  have HG : Hid (getF l f.n = o) := hg
  clear hf hc hg
  go_enter Try.func26, Try.ntmps26
  go_wp2_with (go_at_call 18; refine (fileFault_any _ _ _ _ hz.1 hz.2).mono ?_; rintro e w' ⟨rfl, rfl⟩)
  refine (getFile_any a cap l f.n _ (by unfold maxLen; omega) (by exact (HC.out.alloc _).alloc _)).mono ?_
  rintro e w1 ⟨rfl, hb⟩
  rw [HG.out]
  obtain ⟨hcc, hff⟩ := bcell' hb
  have hcc0 : w1.cell? ⟨w.heap.size, 0, none⟩ = some (.string f.n) := by rw [hcc _ _ (by simp; omega)]; simp [go_sem]
  have hcc1 : w1.cell? ⟨w.heap.size, 1, none⟩ = some (.string f.t) := by rw [hcc _ _ (by simp; omega)]; simp [go_sem]
  have hcc2 : w1.cell? ⟨w.heap.size, 2, none⟩ = some (.int .i64 f.k) := by rw [hcc _ _ (by simp; omega)]; simp [go_sem]
  have hsz1 : w.heap.size + 2 ≤ w1.heap.size := by have := hb.size; simp at this; omega
  have hb' : Below w.heap.size w w1 := (((Below.refl _ _).alloc (Nat.le_refl _) _).alloc (by simp) _).trans (hb.mono (by simp; omega))
  have HB1 : Hid (Below w.heap.size w w1) := hb'
  have HBOX : Hid (w1.cell? ⟨w.heap.size, 0, none⟩ = some (.string f.n) ∧ w1.cell? ⟨w.heap.size, 1, none⟩ = some (.string f.t) ∧ w1.cell? ⟨w.heap.size, 2, none⟩ = some (.int .i64 f.k)) := ⟨hcc0, hcc1, hcc2⟩
  clear hb hb' hcc hff hcc0 hcc1 hcc2
  cases o with
  | none =>
    have h8' := h8 rfl
    clear h8
    rw [getV_none]
    go_wp2_with fail
    go_loopw [9, 10, 11] (fun v b i wr => ∃ (k : Nat) (out : List Fi) (laid : Bool), k ≤ l.length ∧ i = .int .i64 k ∧ b = .bool laid ∧ Owns wr (w.heap.size + 1) v out ∧ Below (w.heap.size + 1) w1 wr ∧ out.length ≤ 2 * k ∧ Hid (putS f out laid (l.drop k) = putR f false l)) (fun _ _ i _ => l.length - (intOf i).toNat)
    case atStart => exact ⟨0, [], false, Nat.zero_le _, rfl, rfl, World.ownsRow_nil _ _ _ _, (Below.refl _ _).alloc (by omega) _, by simp, (by show _ = _; rw [List.drop_zero, putS_eq]; rfl)⟩
    case round =>
      obtain ⟨k, out, laid, hk, rfl, rfl, hown, hb, hout, HT⟩ := hrel
      have HOWN : Hid (Owns wr (w.heap.size + 1) u9 out) := hown
      have HB : Hid (Below (w.heap.size + 1) w1 wr) := hb
      have hsz := hb.size
      clear hown hb
      have hbw : Below w.heap.size w wr := HB1.out.trans (HB.out.mono (by omega))
      have HBW : Hid (Below w.heap.size w wr) := hbw
      clear hbw
      obtain ⟨x0, x1, x2⟩ := HBOX.out
      have y0 : wr.cell? ⟨w.heap.size, 0, none⟩ = some (.string f.n) := by rw [HB.out.cell (p := ⟨w.heap.size, 0, none⟩) (by show w.heap.size < _; omega)]; exact x0
      have y1 : wr.cell? ⟨w.heap.size, 1, none⟩ = some (.string f.t) := by rw [HB.out.cell (p := ⟨w.heap.size, 1, none⟩) (by show w.heap.size < _; omega)]; exact x1
      have y2 : wr.cell? ⟨w.heap.size, 2, none⟩ = some (.int .i64 f.k) := by rw [HB.out.cell (p := ⟨w.heap.size, 2, none⟩) (by show w.heap.size < _; omega)]; exact x2
      have hsz2 : w.heap.size < wr.heap.size := by omega
      clear x0 x1 x2
      by_cases hlt : k < l.length
      · obtain ⟨b, off, rfl, c0, c1, c2⟩ := HC.out.below HBW.out k hlt
        have hbl : b < wr.heap.size := World.block_lt_of_cell? _ _ c0
        have hbl2 : b < w.heap.size := by obtain ⟨b', off', e, d0, _⟩ := HC.out k hlt; cases e; exact World.block_lt_of_cell? _ _ d0
        have HS := putS_step f l out laid k hlt
        have hle := leqB f.n l[k].n
        by_cases hn : l[k].n = f.n
        · have hne' : (l[k].n.toList == f.n.toList) = true := beqB_true hn
          have hlb : ltB l[k].n f.n = false := by rw [hn, ltB_irrefl]
          rw [hlb] at hle HS
          simp only [Bool.not_false] at hle HS
          cases laid with
          | true =>
            have HS' : Hid (putS f out true (l.drop (k + 1)) = putR f false l) := by show _ = _; rw [← HT.out, HS]; simp [hn]
            clear HS hlb hn
            go_wp2
            go_quiet (fail)
            go_wp2
            go_quiet (fail)
            go_wp2
            exact ⟨⟨k + 1, out, true, by omega, by go_num, rfl, HOWN.out, by exact below_drewN HB.out _, by omega, HS'⟩, by simp [intOf]; omega⟩
          | false =>
            have HS' : Hid (putS f (out ++ [f]) true (l.drop (k + 1)) = putR f false l) := by show _ = _; rw [← HT.out, HS]; simp [hn]
            clear HS hlb hn
            go_wp2
            go_quiet (fail)
            go_wp2_with (at_builtin; refine wpList_append_own _ rfl _ _ 32 rfl (w.heap.size + 1) 23 i0 _ 3 40 Try.underlying32 hi hz0 hz1 hz2 rfl (by decide) _ _ _ rfl ((Owns.drewN HOWN.out _).alloc _) ⟨wr.heap.size, 0, none⟩ 1 1 [.string f.n, .string f.t, .int .i64 f.k] rfl rfl (cell_three_new _ _ _ _ _) (three_one f) (by unfold maxLen; omega) (by omega) (by simp; omega) ?_; intro v3 w3 hown3 hgrow3 hnil3)
            have hb3 : Below (w.heap.size + 1) w1 w3 := ((below_drewN HB.out _).alloc (by simp; omega) _).grown hgrow3 (by simp; omega) (fun q hq => (HOWN.out.lt q hq).1)
            have HB3 : Hid (Below (w.heap.size + 1) w1 w3) := hb3
            have hcc : ∀ p, w3.cell? ⟨w.heap.size, p, none⟩ = w1.cell? ⟨w.heap.size, p, none⟩ := fun p => hb3.cell (p := ⟨w.heap.size, p, none⟩) (by show w.heap.size < _; omega)
            have z0 : w3.cell? ⟨w.heap.size, 0, none⟩ = some (.string f.n) := by rw [hcc]; exact HBOX.out.1
            have e0 : w3.cell? ⟨b, off + k * 3, none⟩ = some (.string l[k].n) := by rw [hb3.cell (p := ⟨b, off + k * 3, none⟩) (by show b < _; omega), ← HB.out.cell (p := ⟨b, off + k * 3, none⟩) (by show b < _; omega)]; exact c0
            have HOWN3 : Hid (Owns w3 (w.heap.size + 1) v3 (out ++ [f])) := Owns.snoc hown3
            clear hb3 hcc hgrow3 hnil3 hown3 c0 c1 c2 y0 y1 y2
            go_wp2
            go_quiet (fail)
            go_wp2
            exact ⟨⟨k + 1, out ++ [f], true, by omega, by go_num, rfl, HOWN3.out, by exact below_drewN HB3.out _, by simp; omega, HS'⟩, by simp [intOf]; omega⟩
        · have hne' : (l[k].n.toList == f.n.toList) = false := beqB_false hn
          cases laid with
          | true =>
            have HS' : Hid (putS f (out ++ [l[k]]) true (l.drop (k + 1)) = putR f false l) := by show _ = _; rw [← HT.out, HS]; simp [hn]
            clear HS hle
            go_wp2
            go_quiet (fail)
            go_wp2
            go_quiet (fail)
            go_wp2_with (at_builtin; refine wpList_append_own _ rfl _ _ 32 rfl (w.heap.size + 1) 23 i0 _ 3 40 Try.underlying32 hi hz0 hz1 hz2 rfl (by decide) _ _ _ rfl ((Owns.drewN HOWN.out _).alloc _) ⟨wr.heap.size, 0, none⟩ 1 1 [.string l[k].n, .string l[k].t, .int .i64 l[k].k] rfl rfl (cell_three_new _ _ _ _ _) (three_one l[k]) (by unfold maxLen; omega) (by omega) (by simp; omega) ?_; intro v3 w3 hown3 hgrow3 hnil3)
            exact ⟨⟨k + 1, out ++ [l[k]], true, by omega, by go_num, rfl, Owns.snoc hown3, ((below_drewN HB.out _).alloc (by simp; omega) _).grown hgrow3 (by simp; omega) (fun q hq => (HOWN.out.lt q hq).1), by simp; omega, HS'⟩, by simp [intOf]; omega⟩
          | false =>
            cases hlb : ltB l[k].n f.n
            · rw [hlb] at hle HS
              simp only [Bool.not_false] at hle HS
              have HS' : Hid (putS f (out ++ [f] ++ [l[k]]) true (l.drop (k + 1)) = putR f false l) := by show _ = _; rw [← HT.out, HS]; simp [hn]
              clear HS hlb
              go_wp2
              go_quiet (fail)
              go_wp2_with (at_builtin; refine wpList_append_own _ rfl _ _ 32 rfl (w.heap.size + 1) 23 i0 _ 3 40 Try.underlying32 hi hz0 hz1 hz2 rfl (by decide) _ _ _ rfl ((Owns.drewN HOWN.out _).alloc _) ⟨wr.heap.size, 0, none⟩ 1 1 [.string f.n, .string f.t, .int .i64 f.k] rfl rfl (cell_three_new _ _ _ _ _) (three_one f) (by unfold maxLen; omega) (by omega) (by simp; omega) ?_; intro v3 w3 hown3 hgrow3 hnil3)
              have hb3 : Below (w.heap.size + 1) w1 w3 := ((below_drewN HB.out _).alloc (by simp; omega) _).grown hgrow3 (by simp; omega) (fun q hq => (HOWN.out.lt q hq).1)
              have HB3 : Hid (Below (w.heap.size + 1) w1 w3) := hb3
              have hsz3 := hb3.size
              have hcc : ∀ p, w3.cell? ⟨w.heap.size, p, none⟩ = w1.cell? ⟨w.heap.size, p, none⟩ := fun p => hb3.cell (p := ⟨w.heap.size, p, none⟩) (by show w.heap.size < _; omega)
              have z0 : w3.cell? ⟨w.heap.size, 0, none⟩ = some (.string f.n) := by rw [hcc]; exact HBOX.out.1
              have e0 : w3.cell? ⟨b, off + k * 3, none⟩ = some (.string l[k].n) := by rw [hb3.cell (p := ⟨b, off + k * 3, none⟩) (by show b < _; omega), ← HB.out.cell (p := ⟨b, off + k * 3, none⟩) (by show b < _; omega)]; exact c0
              have e1 : w3.cell? ⟨b, off + k * 3 + 1, none⟩ = some (.string l[k].t) := by rw [hb3.cell (p := ⟨b, off + k * 3 + 1, none⟩) (by show b < _; omega), ← HB.out.cell (p := ⟨b, off + k * 3 + 1, none⟩) (by show b < _; omega)]; exact c1
              have e2 : w3.cell? ⟨b, off + k * 3 + 2, none⟩ = some (.int .i64 l[k].k) := by rw [hb3.cell (p := ⟨b, off + k * 3 + 2, none⟩) (by show b < _; omega), ← HB.out.cell (p := ⟨b, off + k * 3 + 2, none⟩) (by show b < _; omega)]; exact c2
              have HOWN3 : Hid (Owns w3 (w.heap.size + 1) v3 (out ++ [f])) := Owns.snoc hown3
              have hol : (out ++ [f]).length ≤ 300 := by simp; omega
              clear hb3 hcc hgrow3 hnil3 hown3 c0 c1 c2 y0 y1 y2
              go_wp2
              go_quiet (fail)
              go_wp2_with (at_builtin; refine wpList_append_own _ rfl _ _ 32 rfl (w.heap.size + 1) 23 i0 _ 3 40 Try.underlying32 hi hz0 hz1 hz2 rfl (by decide) _ _ _ rfl ((Owns.drewN HOWN3.out _).alloc _) ⟨w3.heap.size, 0, none⟩ 1 1 [.string l[k].n, .string l[k].t, .int .i64 l[k].k] rfl rfl (cell_three_new _ _ _ _ _) (three_one l[k]) (by unfold maxLen; omega) (by omega) (by simp; omega) ?_; intro v4 w4 hown4 hgrow4 hnil4)
              exact ⟨⟨k + 1, out ++ [f] ++ [l[k]], true, by omega, by go_num, rfl, Owns.snoc hown4, ((below_drewN HB3.out _).alloc (by simp; omega) _).grown hgrow4 (by simp; omega) (fun q hq => (HOWN3.out.lt q hq).1), by simp; omega, HS'⟩, by simp [intOf]; omega⟩
            · rw [hlb] at hle HS
              simp only [Bool.not_true] at hle HS
              have HS' : Hid (putS f (out ++ [l[k]]) false (l.drop (k + 1)) = putR f false l) := by show _ = _; rw [← HT.out, HS]; simp [hn]
              clear HS hlb
              go_wp2
              go_quiet (fail)
              go_wp2
              go_quiet (fail)
              go_wp2_with (at_builtin; refine wpList_append_own _ rfl _ _ 32 rfl (w.heap.size + 1) 23 i0 _ 3 40 Try.underlying32 hi hz0 hz1 hz2 rfl (by decide) _ _ _ rfl ((Owns.drewN HOWN.out _).alloc _) ⟨wr.heap.size, 0, none⟩ 1 1 [.string l[k].n, .string l[k].t, .int .i64 l[k].k] rfl rfl (cell_three_new _ _ _ _ _) (three_one l[k]) (by unfold maxLen; omega) (by omega) (by simp; omega) ?_; intro v3 w3 hown3 hgrow3 hnil3)
              exact ⟨⟨k + 1, out ++ [l[k]], false, by omega, by go_num, rfl, Owns.snoc hown3, ((below_drewN HB.out _).alloc (by simp; omega) _).grown hgrow3 (by simp; omega) (fun q hq => (HOWN.out.lt q hq).1), by simp; omega, HS'⟩, by simp [intOf]; omega⟩
      · have hfin := HT.out
        rw [List.drop_eq_nil_of_le (by omega)] at hfin
        cases laid with
        | true =>
          have HF : Hid (out = putR f false l) := hfin
          clear hfin
          go_wp2
          go_ret2
          rw [← HF.out]
          exact ⟨_, rfl, HOWN.out.base (by omega), HBW.out⟩
        | false =>
          have HF : Hid (out ++ [f] = putR f false l) := hfin
          clear hfin
          go_wp2_with (at_builtin; refine wpList_append_own _ rfl _ _ 32 rfl (w.heap.size + 1) 23 i0 _ 3 40 Try.underlying32 hi hz0 hz1 hz2 rfl (by decide) _ _ _ rfl (HOWN.out.alloc _) ⟨wr.heap.size, 0, none⟩ 1 1 [.string f.n, .string f.t, .int .i64 f.k] rfl rfl (cell_three_new _ _ _ _ _) (three_one f) (by unfold maxLen; omega) (by omega) (by simp; omega) ?_; intro v3 w3 hown3 hgrow3 hnil3)
          go_ret2
          rw [← HF.out]
          exact ⟨_, rfl, (Owns.snoc hown3).base (by omega), (HBW.out.alloc HBW.out.size _).grown hgrow3 (by simp; omega) (fun q hq => by have := (HOWN.out.lt q hq).1; omega)⟩
  | some g =>
    clear h8
    rw [getV_some]
    go_wp2_with fail
    go_loopw [9, 10, 11] (fun v b i wr => ∃ (k : Nat) (out : List Fi) (laid : Bool), k ≤ l.length ∧ i = .int .i64 k ∧ b = .bool laid ∧ Owns wr (w.heap.size + 1) v out ∧ Below (w.heap.size + 1) w1 wr ∧ out.length ≤ 2 * k ∧ Hid (putS f out laid (l.drop k) = putR f false l)) (fun _ _ i _ => l.length - (intOf i).toNat)
    case atStart => exact ⟨0, [], false, Nat.zero_le _, rfl, rfl, World.ownsRow_nil _ _ _ _, (Below.refl _ _).alloc (by omega) _, by simp, (by show _ = _; rw [List.drop_zero, putS_eq]; rfl)⟩
    case round =>
      obtain ⟨k, out, laid, hk, rfl, rfl, hown, hb, hout, HT⟩ := hrel
      have HOWN : Hid (Owns wr (w.heap.size + 1) u9 out) := hown
      have HB : Hid (Below (w.heap.size + 1) w1 wr) := hb
      have hsz := hb.size
      clear hown hb
      have hbw : Below w.heap.size w wr := HB1.out.trans (HB.out.mono (by omega))
      have HBW : Hid (Below w.heap.size w wr) := hbw
      clear hbw
      obtain ⟨x0, x1, x2⟩ := HBOX.out
      have y0 : wr.cell? ⟨w.heap.size, 0, none⟩ = some (.string f.n) := by rw [HB.out.cell (p := ⟨w.heap.size, 0, none⟩) (by show w.heap.size < _; omega)]; exact x0
      have y1 : wr.cell? ⟨w.heap.size, 1, none⟩ = some (.string f.t) := by rw [HB.out.cell (p := ⟨w.heap.size, 1, none⟩) (by show w.heap.size < _; omega)]; exact x1
      have y2 : wr.cell? ⟨w.heap.size, 2, none⟩ = some (.int .i64 f.k) := by rw [HB.out.cell (p := ⟨w.heap.size, 2, none⟩) (by show w.heap.size < _; omega)]; exact x2
      have hsz2 : w.heap.size < wr.heap.size := by omega
      clear x0 x1 x2
      by_cases hlt : k < l.length
      · obtain ⟨b, off, rfl, c0, c1, c2⟩ := HC.out.below HBW.out k hlt
        have hbl : b < wr.heap.size := World.block_lt_of_cell? _ _ c0
        have hbl2 : b < w.heap.size := by obtain ⟨b', off', e, d0, _⟩ := HC.out k hlt; cases e; exact World.block_lt_of_cell? _ _ d0
        have HS := putS_step f l out laid k hlt
        have hle := leqB f.n l[k].n
        by_cases hn : l[k].n = f.n
        · have hne' : (l[k].n.toList == f.n.toList) = true := beqB_true hn
          have hlb : ltB l[k].n f.n = false := by rw [hn, ltB_irrefl]
          rw [hlb] at hle HS
          simp only [Bool.not_false] at hle HS
          cases laid with
          | true =>
            have HS' : Hid (putS f out true (l.drop (k + 1)) = putR f false l) := by show _ = _; rw [← HT.out, HS]; simp [hn]
            clear HS hlb hn
            go_wp2
            go_quiet (fail)
            go_wp2
            go_quiet (fail)
            go_wp2
            exact ⟨⟨k + 1, out, true, by omega, by go_num, rfl, HOWN.out, by exact below_drewN HB.out _, by omega, HS'⟩, by simp [intOf]; omega⟩
          | false =>
            have HS' : Hid (putS f (out ++ [f]) true (l.drop (k + 1)) = putR f false l) := by show _ = _; rw [← HT.out, HS]; simp [hn]
            clear HS hlb hn
            go_wp2
            go_quiet (fail)
            go_wp2_with (at_builtin; refine wpList_append_own _ rfl _ _ 32 rfl (w.heap.size + 1) 23 i0 _ 3 40 Try.underlying32 hi hz0 hz1 hz2 rfl (by decide) _ _ _ rfl ((Owns.drewN HOWN.out _).alloc _) ⟨wr.heap.size, 0, none⟩ 1 1 [.string f.n, .string f.t, .int .i64 f.k] rfl rfl (cell_three_new _ _ _ _ _) (three_one f) (by unfold maxLen; omega) (by omega) (by simp; omega) ?_; intro v3 w3 hown3 hgrow3 hnil3)
            have hb3 : Below (w.heap.size + 1) w1 w3 := ((below_drewN HB.out _).alloc (by simp; omega) _).grown hgrow3 (by simp; omega) (fun q hq => (HOWN.out.lt q hq).1)
            have HB3 : Hid (Below (w.heap.size + 1) w1 w3) := hb3
            have hcc : ∀ p, w3.cell? ⟨w.heap.size, p, none⟩ = w1.cell? ⟨w.heap.size, p, none⟩ := fun p => hb3.cell (p := ⟨w.heap.size, p, none⟩) (by show w.heap.size < _; omega)
            have z0 : w3.cell? ⟨w.heap.size, 0, none⟩ = some (.string f.n) := by rw [hcc]; exact HBOX.out.1
            have e0 : w3.cell? ⟨b, off + k * 3, none⟩ = some (.string l[k].n) := by rw [hb3.cell (p := ⟨b, off + k * 3, none⟩) (by show b < _; omega), ← HB.out.cell (p := ⟨b, off + k * 3, none⟩) (by show b < _; omega)]; exact c0
            have HOWN3 : Hid (Owns w3 (w.heap.size + 1) v3 (out ++ [f])) := Owns.snoc hown3
            clear hb3 hcc hgrow3 hnil3 hown3 c0 c1 c2 y0 y1 y2
            go_wp2
            go_quiet (fail)
            go_wp2
            exact ⟨⟨k + 1, out ++ [f], true, by omega, by go_num, rfl, HOWN3.out, by exact below_drewN HB3.out _, by simp; omega, HS'⟩, by simp [intOf]; omega⟩
        · have hne' : (l[k].n.toList == f.n.toList) = false := beqB_false hn
          cases laid with
          | true =>
            have HS' : Hid (putS f (out ++ [l[k]]) true (l.drop (k + 1)) = putR f false l) := by show _ = _; rw [← HT.out, HS]; simp [hn]
            clear HS hle
            go_wp2
            go_quiet (fail)
            go_wp2
            go_quiet (fail)
            go_wp2_with (at_builtin; refine wpList_append_own _ rfl _ _ 32 rfl (w.heap.size + 1) 23 i0 _ 3 40 Try.underlying32 hi hz0 hz1 hz2 rfl (by decide) _ _ _ rfl ((Owns.drewN HOWN.out _).alloc _) ⟨wr.heap.size, 0, none⟩ 1 1 [.string l[k].n, .string l[k].t, .int .i64 l[k].k] rfl rfl (cell_three_new _ _ _ _ _) (three_one l[k]) (by unfold maxLen; omega) (by omega) (by simp; omega) ?_; intro v3 w3 hown3 hgrow3 hnil3)
            exact ⟨⟨k + 1, out ++ [l[k]], true, by omega, by go_num, rfl, Owns.snoc hown3, ((below_drewN HB.out _).alloc (by simp; omega) _).grown hgrow3 (by simp; omega) (fun q hq => (HOWN.out.lt q hq).1), by simp; omega, HS'⟩, by simp [intOf]; omega⟩
          | false =>
            cases hlb : ltB l[k].n f.n
            · rw [hlb] at hle HS
              simp only [Bool.not_false] at hle HS
              have HS' : Hid (putS f (out ++ [f] ++ [l[k]]) true (l.drop (k + 1)) = putR f false l) := by show _ = _; rw [← HT.out, HS]; simp [hn]
              clear HS hlb
              go_wp2
              go_quiet (fail)
              go_wp2_with (at_builtin; refine wpList_append_own _ rfl _ _ 32 rfl (w.heap.size + 1) 23 i0 _ 3 40 Try.underlying32 hi hz0 hz1 hz2 rfl (by decide) _ _ _ rfl ((Owns.drewN HOWN.out _).alloc _) ⟨wr.heap.size, 0, none⟩ 1 1 [.string f.n, .string f.t, .int .i64 f.k] rfl rfl (cell_three_new _ _ _ _ _) (three_one f) (by unfold maxLen; omega) (by omega) (by simp; omega) ?_; intro v3 w3 hown3 hgrow3 hnil3)
              have hb3 : Below (w.heap.size + 1) w1 w3 := ((below_drewN HB.out _).alloc (by simp; omega) _).grown hgrow3 (by simp; omega) (fun q hq => (HOWN.out.lt q hq).1)
              have HB3 : Hid (Below (w.heap.size + 1) w1 w3) := hb3
              have hsz3 := hb3.size
              have hcc : ∀ p, w3.cell? ⟨w.heap.size, p, none⟩ = w1.cell? ⟨w.heap.size, p, none⟩ := fun p => hb3.cell (p := ⟨w.heap.size, p, none⟩) (by show w.heap.size < _; omega)
              have z0 : w3.cell? ⟨w.heap.size, 0, none⟩ = some (.string f.n) := by rw [hcc]; exact HBOX.out.1
              have e0 : w3.cell? ⟨b, off + k * 3, none⟩ = some (.string l[k].n) := by rw [hb3.cell (p := ⟨b, off + k * 3, none⟩) (by show b < _; omega), ← HB.out.cell (p := ⟨b, off + k * 3, none⟩) (by show b < _; omega)]; exact c0
              have e1 : w3.cell? ⟨b, off + k * 3 + 1, none⟩ = some (.string l[k].t) := by rw [hb3.cell (p := ⟨b, off + k * 3 + 1, none⟩) (by show b < _; omega), ← HB.out.cell (p := ⟨b, off + k * 3 + 1, none⟩) (by show b < _; omega)]; exact c1
              have e2 : w3.cell? ⟨b, off + k * 3 + 2, none⟩ = some (.int .i64 l[k].k) := by rw [hb3.cell (p := ⟨b, off + k * 3 + 2, none⟩) (by show b < _; omega), ← HB.out.cell (p := ⟨b, off + k * 3 + 2, none⟩) (by show b < _; omega)]; exact c2
              have HOWN3 : Hid (Owns w3 (w.heap.size + 1) v3 (out ++ [f])) := Owns.snoc hown3
              have hol : (out ++ [f]).length ≤ 300 := by simp; omega
              clear hb3 hcc hgrow3 hnil3 hown3 c0 c1 c2 y0 y1 y2
              go_wp2
              go_quiet (fail)
              go_wp2_with (at_builtin; refine wpList_append_own _ rfl _ _ 32 rfl (w.heap.size + 1) 23 i0 _ 3 40 Try.underlying32 hi hz0 hz1 hz2 rfl (by decide) _ _ _ rfl ((Owns.drewN HOWN3.out _).alloc _) ⟨w3.heap.size, 0, none⟩ 1 1 [.string l[k].n, .string l[k].t, .int .i64 l[k].k] rfl rfl (cell_three_new _ _ _ _ _) (three_one l[k]) (by unfold maxLen; omega) (by omega) (by simp; omega) ?_; intro v4 w4 hown4 hgrow4 hnil4)
              exact ⟨⟨k + 1, out ++ [f] ++ [l[k]], true, by omega, by go_num, rfl, Owns.snoc hown4, ((below_drewN HB3.out _).alloc (by simp; omega) _).grown hgrow4 (by simp; omega) (fun q hq => (HOWN3.out.lt q hq).1), by simp; omega, HS'⟩, by simp [intOf]; omega⟩
            · rw [hlb] at hle HS
              simp only [Bool.not_true] at hle HS
              have HS' : Hid (putS f (out ++ [l[k]]) false (l.drop (k + 1)) = putR f false l) := by show _ = _; rw [← HT.out, HS]; simp [hn]
              clear HS hlb
              go_wp2
              go_quiet (fail)
              go_wp2
              go_quiet (fail)
              go_wp2_with (at_builtin; refine wpList_append_own _ rfl _ _ 32 rfl (w.heap.size + 1) 23 i0 _ 3 40 Try.underlying32 hi hz0 hz1 hz2 rfl (by decide) _ _ _ rfl ((Owns.drewN HOWN.out _).alloc _) ⟨wr.heap.size, 0, none⟩ 1 1 [.string l[k].n, .string l[k].t, .int .i64 l[k].k] rfl rfl (cell_three_new _ _ _ _ _) (three_one l[k]) (by unfold maxLen; omega) (by omega) (by simp; omega) ?_; intro v3 w3 hown3 hgrow3 hnil3)
              exact ⟨⟨k + 1, out ++ [l[k]], false, by omega, by go_num, rfl, Owns.snoc hown3, ((below_drewN HB.out _).alloc (by simp; omega) _).grown hgrow3 (by simp; omega) (fun q hq => (HOWN.out.lt q hq).1), by simp; omega, HS'⟩, by simp [intOf]; omega⟩
      · have hfin := HT.out
        rw [List.drop_eq_nil_of_le (by omega)] at hfin
        cases laid with
        | true =>
          have HF : Hid (out = putR f false l) := hfin
          clear hfin
          go_wp2
          go_ret2
          rw [← HF.out]
          exact ⟨_, rfl, HOWN.out.base (by omega), HBW.out⟩
        | false =>
          have HF : Hid (out ++ [f] = putR f false l) := hfin
          clear hfin
          go_wp2_with (at_builtin; refine wpList_append_own _ rfl _ _ 32 rfl (w.heap.size + 1) 23 i0 _ 3 40 Try.underlying32 hi hz0 hz1 hz2 rfl (by decide) _ _ _ rfl (HOWN.out.alloc _) ⟨wr.heap.size, 0, none⟩ 1 1 [.string f.n, .string f.t, .int .i64 f.k] rfl rfl (cell_three_new _ _ _ _ _) (three_one f) (by unfold maxLen; omega) (by omega) (by simp; omega) ?_; intro v3 w3 hown3 hgrow3 hnil3)
          go_ret2
          rw [← HF.out]
          exact ⟨_, rfl, (Owns.snoc hown3).base (by omega), (HBW.out.alloc HBW.out.size _).grown hgrow3 (by simp; omega) (fun q hq => by have := (HOWN.out.lt q hq).1; omega)⟩

end Go.Proofs.Ytihnghnafpgdfaa
