/-
  THE WALKS OF PACKAGE diff.
-/
import Derived.Test.YtihnghnafpgdfabTexts
import Derived.Test.YtihnghnafpgdfabSorts
import Derived.Test.YtihnghnafpgdfabDiffPure
import Derived.Test.YtihnghnafpgdfabTopBase
import Derived.Sort.OwnSorted
import Derived.Deep.DeepCutAuto
namespace Go.Proofs.Ytihnghnafpgdfab
open Go.RowKit
set_option linter.unusedVariables false
set_option linter.unusedSimpArgs false

/-- Texts, sorted. -/
def sortT (l : List ByteArray) : List ByteArray := ((l.map (fun n => n.data.toList)).mergeSort (fun x y => decide (x ≤ y))).map (fun x => (⟨x.toArray⟩ : ByteArray))
theorem sortT_length (l : List ByteArray) : (sortT l).length = l.length := by simp [sortT]
theorem sortT_diff {l m : List Fi} (hl : Good l) (hm : Good m) : sortT (gathered l m) = diffL l m := by
  unfold sortT
  rw [sorted_gathered hl hm, List.map_map]
  simp [Function.comp_def]

theorem sort_any (B : Nat) (v : Value) (l : List ByteArray) (w : World) (hl : l.length ≤ 1000) (h : OwnsS w B v l) :
    Calls Try.prog 72 #[v] w fun e w' => e = .returned (.tuple #[]) ∧ OwnsS w' B v (sortT l) ∧ w.grownBy w' v.ownBlock := by
  rcases h.2 with ⟨rfl, h0⟩ | ⟨g, cap, cur, rfl, hb, hg, hn, hm, hs, ht⟩
  · have e : l = [] := List.eq_nil_of_length_eq_zero h0
    subst e
    refine (Any.slices_Sort_string_none Try.lays190 none 0 w).mono ?_
    rintro e w' ⟨rfl, rfl⟩
    refine ⟨rfl, ?_, ?_⟩
    · have e : sortT [] = [] := by simp [sortT]
      rw [e]; exact World.ownsRow_nil _ _ _ _
    · exact ⟨rfl, rfl, rfl, Nat.le_refl _, fun _ _ _ => rfl⟩
  · have hH : Sort.Holds encStr w g 0 (l.map (fun n => n.data.toList)).toArray := holds_of_block hg (by simpa [encStr, Function.comp_def] using ht)
    have hlt : g < w.heap.size := (Array.getElem?_eq_some_iff.1 hg).1
    have hc := Any.slices_Sort_string Try.lays190 g 0 cap (l.map (fun n => n.data.toList)) w hH hlt (by simp; omega)
    rw [List.length_map] at hc
    refine hc.mono ?_
    rintro e w' ⟨rfl, n, os, rfl⟩
    refine ⟨rfl, ?_, grownBy_sorted _⟩
    have := ownsRow_sorted (w := w) (base := B) (g := g) (cap := cap) (n := n) (os := os) (e := 9) (cur := cur) (ss := l.map (fun n => n.data.toList)) (ts := (l.map (fun n => n.data.toList)).mergeSort (fun x y => decide (x ≤ y))) (by simp) hb hg (by simpa using hn) hm (by simpa using hs)
    show World.ownsRow _ _ _ _ _ _ _
    rw [sortT_length, sortT, List.map_map]
    simpa [encStr, Function.comp_def] using this

theorem OwnsS.below {w w' : World} {B : Nat} {v : Value} {l : List ByteArray} (h : OwnsS w B v l) (hb : Below w.heap.size w w') : OwnsS w' B v l :=
  World.ownsRow.kept (row := none) h ⟨hb.os, hb.tape, hb.output, hb.size, fun k hk _ => hb.block k hk⟩ (by cases v.ownBlock <;> simp)
theorem OwnsS.mono {w : World} {B B' : Nat} {v : Value} {l : List ByteArray} (h : OwnsS w B v l) (hb : B' ≤ B) : OwnsS w B' v l := by
  refine ⟨h.1, ?_⟩
  rcases h.2 with h0 | ⟨g, cap, cur, e, hg, rest⟩
  · exact .inl h0
  · exact .inr ⟨g, cap, cur, e, Nat.le_trans hb hg, rest⟩

/-- The file that is found, or none. -/
def foundF : Option Fi → Fi
  | none => ⟨⟨#[]⟩, ⟨#[]⟩, 0⟩
  | some f => f
theorem getV_found (o : Option Fi) : getV o = .tuple #[.agg #[.string (foundF o).n, .string (foundF o).t, .int .i64 (foundF o).k], .bool o.isSome] := by
  cases o <;> rfl

set_option maxRecDepth 100000 in
set_option maxHeartbeats 1000000 in
theorem of_any (a a' : Option Addr) (cap cap' : Nat) (l m : List Fi) (t s : Int) (w : World) (hl : Good l) (hm : Good m) (hc : Cells w a l) (hc' : Cells w a' m) :
    Calls Try.prog 17 #[.agg #[.slice a l.length cap, .int .i64 t], .agg #[.slice a' m.length cap', .int .i64 s]] w fun e w' => ∃ v, e = .returned v ∧ OwnsS w' w.heap.size v (diffL l m) ∧ Below w.heap.size w w' := by
  obtain ⟨i0, hi, hz0, hz1, hz2⟩ := info_parts Try.infoString
  obtain ⟨W, hW⟩ : ∃ W, W = (w.alloc (.cells #[.slice a l.length cap, .int .i64 t] 30)).alloc (.cells #[.slice a' m.length cap', .int .i64 s] 30) := ⟨_, rfl⟩
  have hWz : W.heap.size = w.heap.size + 2 := by rw [hW]; simp
  have HBW : Hid (Below w.heap.size w W) := by rw [hW]; exact ((Below.refl _ _).alloc (Nat.le_refl _) _).alloc (by simp) _
  have HC : Hid (Cells W a l) := hc.below HBW.out
  have HC' : Hid (Cells W a' m) := hc'.below HBW.out
  have HQA : Hid (QBox W w.heap.size (.slice a l.length cap) t) := by rw [hW]; exact (QBox.new _ _ _ _).alloc _
  have HQB : Hid (QBox W (w.heap.size + 1) (.slice a' m.length cap') s) := by
    rw [hW]
    have := QBox.new (w.alloc (.cells #[.slice a l.length cap, .int .i64 t] 30)) (.slice a' m.length cap') s 30
    rwa [World.size_alloc] at this
  have h8 := hl.few
  have h8' := hm.few
  have HG : Hid (Good l) := hl
  have HG' : Hid (Good m) := hm
  clear hc hc' hl hm
  go_enter Try.func17, Try.ntmps17
  go_wp2_with fail
  rw [← hW]
  clear hW
  go_loopw [5, 17] (fun v i wr => ∃ k : Nat, k ≤ l.length ∧ i = .int .i64 k ∧ OwnsS wr W.heap.size v (((l.take k).filter (gatherA m)).map Fi.n) ∧ Below W.heap.size W wr) (fun _ i _ => l.length - (intOf i).toNat)
  case atStart => exact ⟨0, Nat.zero_le _, rfl, World.ownsRow_nil _ _ _ _, Below.refl _ _⟩
  case round =>
    obtain ⟨k, hk, rfl, hown, hb⟩ := hrel
    have HB : Hid (Below W.heap.size W wr) := hb
    have hsz := hb.size
    clear hb
    have HOWN : Hid (OwnsS wr W.heap.size u5 (((l.take k).filter (gatherA m)).map Fi.n)) := hown
    clear hown
    by_cases hlt : k < l.length
    · obtain ⟨b, off, rfl, c0, c1, c2⟩ := HC.out.below HB.out k hlt
      have hbl : b < wr.heap.size := World.block_lt_of_cell? _ _ c0
      have HQA1 : Hid (QBox wr w.heap.size (.slice (some ⟨b, off, none⟩) l.length cap) t) := HQA.out.below HB.out HQA.out.lt
      have HQB1 : Hid (QBox wr (w.heap.size + 1) (.slice a' m.length cap') s) := HQB.out.below HB.out HQB.out.lt
      obtain ⟨x0, x1, xf0, xf1, xl, _⟩ := HQA1.out
      obtain ⟨y0, y1, yf0, yf1, yl, _⟩ := HQB1.out
      go_wp2_with fail
      refine (get_any a' cap' m l[k].n _ HG'.out (by exact (HC'.out.below HB.out).alloc _)).mono ?_
      rintro e w1 ⟨rfl, hb1⟩
      rw [getV_found]
      have HB1 : Hid (Below W.heap.size W w1) := Below.on _ HB.out HB.out.size hb1
      have HF1 : Hid (BoxF w1 wr.heap.size l[k]) := (BoxF.new wr _ _).below hb1 (by simp)
      have HO1 : Hid (OwnsS w1 W.heap.size u5 (((l.take k).filter (gatherA m)).map Fi.n)) := OwnsS.below (HOWN.out.alloc _) hb1
      have hw1 : wr.heap.size < w1.heap.size := by have := hb1.size; simp at this; omega
      obtain ⟨z0, z1, z2, zl⟩ := HF1.out
      clear hb1 c0 c1 c2 x0 x1 xf0 xf1 xl y0 y1 yf0 yf1 yl hbl HQA1 HQB1
      have hsn : ((l.take (k + 1)).filter (gatherA m)).map Fi.n = ((l.take k).filter (gatherA m)).map Fi.n ++ (if gatherA m l[k] = true then [l[k].n] else []) := by
        rw [takeSucc l k hlt, List.filter_append, List.map_append]
        cases hx : gatherA m l[k] <;> simp [hx]
      have hga : gatherA m l[k] = (!(getF m l[k].n).isSome || !eqFi l[k] (foundF (getF m l[k].n))) := by
        unfold gatherA
        cases getF m l[k].n <;> simp [foundF]
      have hq := fun w => run_neq_file l[k] (foundF (getF m l[k].n)) w
      generalize foundF (getF m l[k].n) = g at *
      generalize (getF m l[k].n).isSome = is at *
      have hlen : (((l.take k).filter (gatherA m)).map Fi.n).length ≤ 8 := by
        have h1 := List.length_filter_le (gatherA m) (l.take k)
        have h2 : (l.take k).length ≤ k := by simp; omega
        rw [List.length_map]; omega
      cases hgv : gatherA m l[k]
      · rw [hgv] at hsn hga
        have HSN : Hid (((l.take (k + 1)).filter (gatherA m)).map Fi.n = ((l.take k).filter (gatherA m)).map Fi.n) := by show _ = _; rw [hsn]; simp
        clear hsn hgv
        cases is
        · exact absurd hga (by simp)
        · have he : eqFi l[k] g = true := by simpa using hga.symm
          clear hga
          go_wp2
          refine ⟨⟨k + 1, by omega, by go_num, ?_, ?_⟩, by simp [intOf]; omega⟩
          · rw [HSN.out]
            exact HO1.out.alloc _
          · exact HB1.out.alloc HB1.out.size _
      · rw [hgv] at hsn hga
        have HSN : Hid (((l.take (k + 1)).filter (gatherA m)).map Fi.n = ((l.take k).filter (gatherA m)).map Fi.n ++ [l[k].n]) := by show _ = _; rw [hsn]; simp
        clear hsn hgv
        cases is
        · clear hga
          go_wp2_with (at_builtin; refine wpList_append_own _ rfl _ _ 42 rfl W.heap.size 9 i0 _ 1 16 Try.underlying42 hi hz0 hz1 hz2 rfl (by decide) _ _ _ rfl ((HO1.out.alloc _).alloc _) ⟨w1.heap.size + 1, 0, none⟩ 1 1 [.string l[k].n] rfl rfl (by have := cell_one_new (w1.alloc (.cells #[.string g.n, .string g.t, .int .i64 g.k] 41)) (.string l[k].n) 9; rwa [World.size_alloc] at this) (one_one l[k].n) (by unfold maxLen; omega) (by omega) (by simp; omega) ?_; intro v' w3 hown' hgrow3 hnil3)
          refine ⟨⟨k + 1, by omega, by go_num, ?_, ?_⟩, by simp [intOf]; omega⟩
          · rw [HSN.out]
            exact OwnsS.snoc hown'
          · exact ((HB1.out.alloc HB1.out.size _).alloc (by simp; have := HB1.out.size; omega) _).grown hgrow3 (by simp; have := HB1.out.size; omega) (fun q hq => (HO1.out.lt q hq).1)
        · have he : eqFi l[k] g = false := by simpa using hga.symm
          clear hga
          go_wp2_with (at_builtin; refine wpList_append_own _ rfl _ _ 42 rfl W.heap.size 9 i0 _ 1 16 Try.underlying42 hi hz0 hz1 hz2 rfl (by decide) _ _ _ rfl ((HO1.out.alloc _).alloc _) ⟨w1.heap.size + 1, 0, none⟩ 1 1 [.string l[k].n] rfl rfl (by have := cell_one_new (w1.alloc (.cells #[.string g.n, .string g.t, .int .i64 g.k] 41)) (.string l[k].n) 9; rwa [World.size_alloc] at this) (one_one l[k].n) (by unfold maxLen; omega) (by omega) (by simp; omega) ?_; intro v' w3 hown' hgrow3 hnil3)
          refine ⟨⟨k + 1, by omega, by go_num, ?_, ?_⟩, by simp [intOf]; omega⟩
          · rw [HSN.out]
            exact OwnsS.snoc hown'
          · exact ((HB1.out.alloc HB1.out.size _).alloc (by simp; have := HB1.out.size; omega) _).grown hgrow3 (by simp; have := HB1.out.size; omega) (fun q hq => (HO1.out.lt q hq).1)
    · rw [takeAll l k (by omega)] at HOWN
      have HQA1 : Hid (QBox wr w.heap.size (.slice a l.length cap) t) := HQA.out.below HB.out HQA.out.lt
      have HQB1 : Hid (QBox wr (w.heap.size + 1) (.slice a' m.length cap') s) := HQB.out.below HB.out HQB.out.lt
      have hlenA : ((l.filter (gatherA m)).map Fi.n).length ≤ 8 := by
        have h1 := List.length_filter_le (gatherA m) l
        rw [List.length_map]; omega
      obtain ⟨x0, x1, xf0, xf1, xl, _⟩ := HQA1.out
      obtain ⟨y0, y1, yf0, yf1, yl, _⟩ := HQB1.out
      go_wp2_with fail
      clear HQA1 HQB1 x0 x1 xf0 xf1 xl y0 y1 yf0 yf1 yl
      go_loopw [5, 45] (fun v i wq => ∃ j : Nat, j ≤ m.length ∧ i = .int .i64 j ∧ OwnsS wq W.heap.size v ((l.filter (gatherA m)).map Fi.n ++ ((m.take j).filter (gatherB l)).map Fi.n) ∧ Below W.heap.size W wq) (fun _ i _ => m.length - (intOf i).toNat)
      case atStart => exact ⟨0, Nat.zero_le _, rfl, by simpa using HOWN.out, HB.out⟩
      case round =>
        clear HOWN HB hsz
        obtain ⟨j, hj, rfl, hown, hb⟩ := hrel
        have HB : Hid (Below W.heap.size W wr) := hb
        have hsz := hb.size
        clear hb
        have hlen : ((l.filter (gatherA m)).map Fi.n ++ ((m.take j).filter (gatherB l)).map Fi.n).length ≤ 16 := by
          have h1 := List.length_filter_le (gatherB l) (m.take j)
          have h2 : (m.take j).length ≤ j := by simp; omega
          rw [List.length_append, List.length_map]; rw [List.length_map] at hlenA; rw [List.length_map]; omega
        have hsn : ∀ h : j < m.length, (l.filter (gatherA m)).map Fi.n ++ ((m.take (j + 1)).filter (gatherB l)).map Fi.n = ((l.filter (gatherA m)).map Fi.n ++ ((m.take j).filter (gatherB l)).map Fi.n) ++ (if gatherB l m[j] = true then [m[j].n] else []) := by
          intro h
          rw [takeSucc m j h, List.filter_append, List.map_append, List.append_assoc]
          cases hx : gatherB l m[j] <;> simp [hx]
        have hfin : ¬ j < m.length → sortT ((l.filter (gatherA m)).map Fi.n ++ ((m.take j).filter (gatherB l)).map Fi.n) = diffL l m := by
          intro h
          rw [takeAll m j (by omega)]
          exact sortT_diff HG.out HG'.out
        generalize hL : (l.filter (gatherA m)).map Fi.n ++ ((m.take j).filter (gatherB l)).map Fi.n = L at *
        clear hL
        have HOWN : Hid (OwnsS wr W.heap.size u5 L) := hown
        clear hown
        by_cases hlj : j < m.length
        · obtain ⟨b, off, rfl, c0, c1, c2⟩ := HC'.out.below HB.out j hlj
          have hbl : b < wr.heap.size := World.block_lt_of_cell? _ _ c0
          have HQA1 : Hid (QBox wr w.heap.size (.slice a l.length cap) t) := HQA.out.below HB.out HQA.out.lt
          obtain ⟨x0, x1, xf0, xf1, xl, _⟩ := HQA1.out
          go_wp2_with fail
          refine (get_any a cap l m[j].n _ HG.out (by exact (HC.out.below HB.out).alloc _)).mono ?_
          rintro e w2 ⟨rfl, hb1⟩
          rw [getV_found]
          have HB2 : Hid (Below W.heap.size W w2) := Below.on _ HB.out HB.out.size hb1
          have HF2 : Hid (BoxF w2 wr.heap.size m[j]) := (BoxF.new wr _ _).below hb1 (by simp)
          have HO2 : Hid (OwnsS w2 W.heap.size u5 L) := OwnsS.below (HOWN.out.alloc _) hb1
          have hw1 : wr.heap.size < w2.heap.size := by have := hb1.size; simp at this; omega
          obtain ⟨z0, z1, z2, zl⟩ := HF2.out
          clear hb1 c0 c1 c2 x0 x1 xf0 xf1 xl hbl HQA1
          have hsn' := hsn hlj
          have hgb : gatherB l m[j] = !(getF l m[j].n).isSome := by
            unfold gatherB
            cases getF l m[j].n <;> simp
          rw [hgb] at hsn'
          clear hsn hgb
          generalize foundF (getF l m[j].n) = g at *
          generalize (getF l m[j].n).isSome = is at *
          cases is
          · have HSN : Hid ((l.filter (gatherA m)).map Fi.n ++ ((m.take (j + 1)).filter (gatherB l)).map Fi.n = L ++ [m[j].n]) := by show _ = _; rw [hsn']; simp
            clear hsn'
            go_wp2_with (at_builtin; refine wpList_append_own _ rfl _ _ 42 rfl W.heap.size 9 i0 _ 1 16 Try.underlying42 hi hz0 hz1 hz2 rfl (by decide) _ _ _ rfl ((HO2.out.alloc _).alloc _) ⟨w2.heap.size + 1, 0, none⟩ 1 1 [.string m[j].n] rfl rfl (by have := cell_one_new (w2.alloc (.cells #[.string g.n, .string g.t, .int .i64 g.k] 41)) (.string m[j].n) 9; rwa [World.size_alloc] at this) (one_one m[j].n) (by unfold maxLen; omega) (by omega) (by simp; omega) ?_; intro v' w3 hown' hgrow3 hnil3)
            refine ⟨⟨j + 1, by omega, by go_num, ?_, ?_⟩, by simp [intOf]; omega⟩
            · rw [HSN.out]
              exact OwnsS.snoc hown'
            · exact ((HB2.out.alloc HB2.out.size _).alloc (by simp; have := HB2.out.size; omega) _).grown hgrow3 (by simp; have := HB2.out.size; omega) (fun q hq => (HO2.out.lt q hq).1)
          · have HSN : Hid ((l.filter (gatherA m)).map Fi.n ++ ((m.take (j + 1)).filter (gatherB l)).map Fi.n = L) := by show _ = _; rw [hsn']; simp
            clear hsn'
            go_wp2
            refine ⟨⟨j + 1, by omega, by go_num, ?_, ?_⟩, by simp [intOf]; omega⟩
            · rw [HSN.out]
              exact HO2.out.alloc _
            · exact HB2.out.alloc HB2.out.size _
        · have HFIN : Hid (sortT L = diffL l m) := hfin hlj
          clear hsn hfin
          go_wp2_with fail
          refine (sort_any W.heap.size u5 L wr (by omega) HOWN.out).mono ?_
          rintro e w2 ⟨rfl, ho, hg⟩
          rw [HFIN.out] at ho
          have HO2 : Hid (OwnsS w2 w.heap.size u5 (diffL l m)) := OwnsS.mono ho (by omega)
          have HB2 : Hid (Below w.heap.size w w2) := HBW.out.trans ((HB.out.grown hg HB.out.size (fun q hq => (HOWN.out.lt q hq).1)).mono (by omega))
          clear ho hg
          go_wp2
          go_ret
          exact ⟨_, rfl, HO2.out, HB2.out⟩

end Go.Proofs.Ytihnghnafpgdfab
