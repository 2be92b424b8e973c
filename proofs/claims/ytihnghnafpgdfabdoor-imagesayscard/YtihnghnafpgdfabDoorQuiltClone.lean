/-
  CHAPTER 2, CALL BY CALL: each of the program's answers beside the document's.
  THE WALK OF ShelfSays: it returns true, and writes nothing that was there.
  CHAPTER 3 AS PLAIN FUNCTIONS: what becomes of files and of the turn, and the error's number. No program is named here.
  THE WALKS OF PACKAGE quilt THAT DO NOTHING WITH FILES: New, turned, Check; Clone; and of the document's answer: next, QuiltFault, SameQuilt.
  THE WALKS OF quilt.Write, Drop, Rename.
  THE WALK OF quilt.Rename.
  THE WALK OF slices.Clone AT FILES.
  append(nil, files...): a copy that is the call's own.
-/
import Derived.Test.YtihnghnafpgdfabDoorShelfCat
import Derived.Test.YtihnghnafpgdfabDoorShelfPut
import Derived.Deep.LoopGhost
namespace Go.Proofs.YtihnghnafpgdfabDoor
open Go.RowKit
set_option linter.unusedVariables false
set_option linter.unusedSimpArgs false

/-- A slice of files, as it is handed about. -/
structure Slice (w : World) (a : Option Addr) (cap : Nat) (l : List Fi) : Prop where
  cells : Cells w a l
  room : l.length ≤ cap
  most : cap ≤ maxLen
  nil : a = none → cap = 0

theorem Slice.below {w w' : World} {a : Option Addr} {cap : Nat} {l : List Fi} (h : Slice w a cap l) (hb : Below w.heap.size w w') : Slice w' a cap l :=
  ⟨h.cells.below hb, h.room, h.most, h.nil⟩

theorem Owns.slice {w : World} {B : Nat} {v : Value} {l : List Fi} (h : Owns w B v l) : ∃ a cap, v = .slice a l.length cap ∧ Slice w a cap l := by
  obtain ⟨a, cap, e, hc, hn, hm, hr, _⟩ := h.files
  exact ⟨a, cap, e, hc, hr, hm, hn⟩

theorem putN_range (l : List Fi) (f : Fi) : 0 ≤ putN l f ∧ putN l f ≤ 100 := by
  have := f.fault_range
  unfold putN
  split
  · exact this
  · split <;> omega
theorem dropN_range (l : List Fi) (name : ByteArray) : 0 ≤ dropN l name ∧ dropN l name ≤ 100 := by
  unfold dropN
  split <;> omega

theorem good_nil : Good [] := ⟨by simp, by simp, by intro i h; simp at h⟩
theorem good_one {f : Fi} (h : f.fault = 0) : Good [f] := ⟨by simp, by simp [h], by intro i h; simp at h⟩

def fa : Fi := ⟨⟨#[97]⟩, ⟨#[120]⟩, 1⟩

end Go.Proofs.YtihnghnafpgdfabDoor
namespace Go.Proofs.YtihnghnafpgdfabDoor
open Go.RowKit
set_option linter.unusedVariables false
set_option linter.unusedSimpArgs false

def getD' : Option Fi → Fi
  | some f => f
  | none => ⟨⟨#[]⟩, ⟨#[]⟩, 0⟩
theorem getV_eq (o : Option Fi) : getV o = .tuple #[.agg #[.string (getD' o).n, .string (getD' o).t, .int .i64 (getD' o).k], .bool o.isSome] := by cases o <;> rfl

theorem putL_len (l : List Fi) (f : Fi) : (putL l f).length ≤ l.length + 1 := by
  unfold putL
  split
  · unfold putF
    simp only [List.length_append, List.length_take, List.length_cons, List.length_drop]
    split <;> omega
  · simp
theorem dropL_len (l : List Fi) (name : ByteArray) : (dropL l name).length ≤ l.length := by
  unfold dropL
  split
  · unfold dropF
    simp only [List.length_append, List.length_take, List.length_drop]
    omega
  · simp

theorem same_nil (w : World) : Calls Tryd.prog 15 #[.nilIface, .int .i64 0] w fun e w' => e = .returned (.bool true) ∧ w' = w := same_yes 0 w (by decide) (by decide)

theorem fa_good : (fa).fault = 0 := by decide

end Go.Proofs.YtihnghnafpgdfabDoor
namespace Go.Proofs.YtihnghnafpgdfabDoor
open Go.RowKit
set_option linter.unusedVariables false
set_option linter.unusedSimpArgs false

/-- What is done: files, turn, the error's number (0: none). -/
structure Res where
  l : List Fi
  t : Int
  n : Int

def failR (n : Int) : Res := ⟨[], 0, n⟩
def turnR (t : Int) (l : List Fi) : Res := if 9999 ≤ t then ⟨[], 0, 7⟩ else ⟨l, t + 1, 0⟩
def nextR (t : Int) (l : List Fi) (n : Int) : Res := if n ≠ 0 then ⟨[], 0, n⟩ else turnR t l

def writeF (l : List Fi) (name text : ByteArray) : Fi := ⟨name, text, (getD' (getF l name)).k + 1⟩
def writeR (l : List Fi) (t : Int) (name text : ByteArray) : Res := nextR t (putL l (writeF l name text)) (putN l (writeF l name text))
def dropR' (l : List Fi) (t : Int) (name : ByteArray) : Res := nextR t (dropL l name) (dropN l name)
def renameR (l : List Fi) (t : Int) (name to : ByteArray) : Res :=
  match getF l name with
  | none => failR 5
  | some f => if nameF to.data.toList ≠ 0 then failR (nameF to.data.toList) else if (getF l to).isSome = true then failR 6 else
    nextR t (putL (dropF l name) ⟨to, f.t, f.k⟩) (putN (dropF l name) ⟨to, f.t, f.k⟩)
def swapL (l : List Fi) (a b : ByteArray) (f g : Fi) : List Fi := putF (putF l ⟨a, g.t, f.k + 1⟩) ⟨b, f.t, g.k + 1⟩
def swapR (l : List Fi) (t : Int) (a b : ByteArray) : Res :=
  match getF l a, getF l b with
  | some f, some g => if 9999 ≤ f.k ∨ 9999 ≤ g.k then failR 7 else if a = b then turnR t l else turnR t (swapL l a b f g)
  | _, _ => failR 5

/-- A quilt that may be. -/
structure GoodQ (l : List Fi) (t : Int) : Prop where
  files : Good l
  low : 1 ≤ t
  high : t ≤ 9999

theorem fault_zero {f : Fi} (h : f.fault = 0) : nameF f.n.data.toList = 0 ∧ f.t.size ≤ 12 ∧ 1 ≤ f.k ∧ f.k ≤ 9999 := by
  unfold Fi.fault fileF at h
  by_cases h1 : nameF f.n.data.toList = 0
  · simp only [h1, ne_eq, not_true_eq_false, if_false] at h
    by_cases h2 : 12 < f.t.data.toList.length
    · rw [if_pos h2] at h; exact absurd h (by decide)
    · rw [if_neg h2] at h
      by_cases h3 : f.k < 1 ∨ 9999 < f.k
      · rw [if_pos h3] at h; exact absurd h (by decide)
      · have : f.t.data.toList.length = f.t.size := by simp
        exact ⟨h1, by omega, by omega, by omega⟩
  · rw [if_pos h1] at h; exact absurd h h1
theorem fault_of {f : Fi} (h1 : nameF f.n.data.toList = 0) (h2 : f.t.size ≤ 12) (h3 : 1 ≤ f.k) (h4 : f.k ≤ 9999) : f.fault = 0 := by
  unfold Fi.fault fileF
  have : f.t.data.toList.length = f.t.size := by simp
  rw [if_neg (by simp [h1]), if_neg (by omega), if_neg (by omega)]
theorem name_size {s : ByteArray} (h : nameF s.data.toList = 0) : s.size ≤ 6 := by
  have e : s.data.toList.length = s.size := by simp
  unfold nameF at h
  split at h
  · exact absurd h (by decide)
  · split at h
    · split at h
      · exact absurd h (by decide)
      · omega
    · exact absurd h (by decide)
theorem Good.times {l : List Fi} (h : Good l) {f : Fi} (hf : f ∈ l) : nameF f.n.data.toList = 0 ∧ f.t.size ≤ 12 ∧ 1 ≤ f.k ∧ f.k ≤ 9999 := fault_zero (h.each f hf)
theorem getF_mem {l : List Fi} {name : ByteArray} {f : Fi} (h : getF l name = some f) : f ∈ l ∧ f.n = name := by
  unfold getF at h
  have h1 := List.mem_of_find?_eq_some h
  have h2 := List.find?_some h
  exact ⟨h1, toList_inj (by simpa using h2)⟩

theorem pw_good {l : List Fi} (h8 : l.length ≤ 8) (he : ∀ f ∈ l, f.fault = 0) (hp : l.Pairwise (fun a b => ltB a.n b.n = true)) : Good l :=
  ⟨h8, he, fun i h => List.pairwise_iff_getElem.1 hp i (i + 1) (by omega) h (by omega)⟩

/-- What is put leaves files that may be. -/
theorem good_put {l : List Fi} (hg : Good l) {f : Fi} (hf : f.fault = 0) (h8 : hasF l f.n = false → l.length < 8) : Good (putF l f) := by
  have hp := posF_le l f.n
  refine pw_good ?_ ?_ ?_
  · have h := hg.few
    unfold putF
    simp only [List.length_append, List.length_take, List.length_cons, List.length_drop]
    cases hh : hasF l f.n
    · have := h8 hh; simp; omega
    · have := (hasF_name hh).1; simp; omega
  · intro g hgm
    unfold putF at hgm
    simp only [List.mem_append, List.mem_cons] at hgm
    rcases hgm with h | rfl | h
    · exact hg.each g (List.mem_of_mem_take h)
    · exact hf
    · exact hg.each g (List.mem_of_mem_drop h)
  · unfold putF
    rw [List.pairwise_append]
    refine ⟨hg.pw.sublist (List.take_sublist _ _), ?_, ?_⟩
    · rw [List.pairwise_cons]
      refine ⟨?_, hg.pw.sublist (List.drop_sublist _ _)⟩
      intro g hgm
      cases hh : hasF l f.n
      · simp only [hh, Bool.false_eq_true, if_false] at hgm
        obtain ⟨i, hi, rfl⟩ := List.getElem_of_mem hgm
        simp only [List.length_drop] at hi
        rw [List.getElem_drop]
        have hge : ltB l[posF l f.n + i].n f.n = false := hg.mono f.n (posF l f.n) (posF l f.n + i) (by omega) (by omega) (by omega) (posF_at l f.n (by omega))
        cases hx : ltB f.n l[posF l f.n + i].n
        · have e := ltB_tri hx hge
          by_cases h0 : i = 0
          · subst h0
            exact absurd e.symm (hasF_not hh (by omega))
          · exact absurd e.symm (hg.other (by omega) (by omega))
        · rfl
      · obtain ⟨hp', e⟩ := hasF_name hh
        simp only [hh, if_true] at hgm
        obtain ⟨i, hi, rfl⟩ := List.getElem_of_mem hgm
        simp only [List.length_drop] at hi
        rw [List.getElem_drop]
        have := hg.lt (i := posF l f.n) (j := posF l f.n + 1 + i) (by omega) (by omega)
        rwa [e] at this
    · intro a ha b hb
      obtain ⟨i, hi, rfl⟩ := List.getElem_of_mem ha
      simp only [List.length_take] at hi
      rw [List.getElem_take]
      have hlt := posF_below l f.n i (by omega) (by omega)
      simp only [List.mem_cons] at hb
      rcases hb with rfl | hb
      · exact hlt
      · obtain ⟨j, hj, rfl⟩ := List.getElem_of_mem hb
        simp only [List.length_drop] at hj
        rw [List.getElem_drop]
        exact hg.lt (by split <;> omega) (by omega)

theorem good_drop {l : List Fi} (hg : Good l) (name : ByteArray) : Good (dropF l name) := by
  have hsub : (dropF l name).Sublist l := by
    unfold dropF
    have h1 : (l.drop (posF l name + 1)).Sublist (l.drop (posF l name)) := by
      rw [← List.drop_drop]
      exact List.drop_sublist _ _
    have := List.Sublist.append (List.Sublist.refl (l.take (posF l name))) h1
    rwa [List.take_append_drop] at this
  exact pw_good (Nat.le_trans hsub.length_le hg.few) (fun f hf => hg.each f (hsub.subset hf)) (hg.pw.sublist hsub)

end Go.Proofs.YtihnghnafpgdfabDoor
namespace Go.Proofs.YtihnghnafpgdfabDoor
open Go.RowKit
set_option linter.unusedVariables false
set_option linter.unusedSimpArgs false

/-- A quilt as a value. -/
abbrev quiltV (v : Value) (t : Int) : Value := .agg #[v, .int .i64 t]
abbrev noQuilt : Value := .agg #[.slice none 0 0, .int .i64 0]

set_option maxRecDepth 100000 in
theorem new_any (w : World) : Calls Tryd.prog 19 #[] w fun e w' => e = .returned (.agg #[.slice none 0 0, .int .i64 1]) ∧ Below w.heap.size w w' := by
  go_enter Tryd.func19, Tryd.ntmps19
  go_wp2
  refine bodyPost_ret (v := .agg #[.slice none 0 0, .int .i64 1]) (by simp [results, Tryd.results19, go_sem]) rfl ⟨rfl, ?_⟩
  exact (Below.refl _ _).alloc (Nat.le_refl _) _

/-- C1, by its error's number. -/
def quiltF (l : List Fi) (t : Int) : Int := if filesF l ≠ 0 then filesF l else if t < 1 ∨ 9999 < t then 1 else 0

set_option maxRecDepth 100000 in
set_option maxHeartbeats 1000000 in
theorem quiltCheck_any (a : Option Addr) (cap : Nat) (l : List Fi) (t : Int) (w : World) (hl : l.length ≤ maxLen) (hz : Sized l) (hc : Cells w a l) :
    Calls Tryd.prog 23 #[.agg #[.slice a l.length cap, .int .i64 t]] w fun e w' => e = .returned (errV (quiltF l t)) ∧ Below w.heap.size w w' := by
  have HC : Hid (Cells w a l) := hc
  clear hc
  by_cases hf : filesF l = 0
  · have hfin : quiltF l t = if t < 1 ∨ 9999 < t then 1 else 0 := by simp [quiltF, hf]
    rw [hfin]
    have he : errV (filesF l) = .nilIface := errV_zero hf
    clear hfin hf
    go_enter Tryd.func23, Tryd.ntmps23
    go_wp2_with fail
    refine (shelfCheck_any a cap l _ hl hz (by exact HC.out.alloc _)).mono ?_
    rintro e w1 ⟨rfl, hb⟩
    rw [he]
    have hx : w1.cell? ⟨w.heap.size, 1, none⟩ = some (.int .i64 t) := by rw [hb.cell (p := ⟨w.heap.size, 1, none⟩) (by simp)]; simp [go_sem]
    have HB : Hid (Below w.heap.size w w1) := ((Below.refl _ _).alloc (Nat.le_refl _) _).trans (hb.mono (by simp))
    clear hb he
    go_wp2
    all_goals
      go_ret
      exact ⟨ret_err (by first | rfl | (rw [if_pos (by omega)]; rfl) | (rw [if_neg (by omega)]; rfl)), HB.out⟩
  · have hfin : quiltF l t = filesF l := by simp [quiltF, hf]
    rw [hfin]
    have he : errV (filesF l) = .iface 59 (.int .i64 (filesF l)) := errV_pos hf
    rw [he]
    clear hfin hf
    go_enter Tryd.func23, Tryd.ntmps23
    go_wp2_with fail
    refine (shelfCheck_any a cap l _ hl hz (by exact HC.out.alloc _)).mono ?_
    rintro e w1 ⟨rfl, hb⟩
    rw [he]
    have HB : Hid (Below w.heap.size w w1) := ((Below.refl _ _).alloc (Nat.le_refl _) _).trans (hb.mono (by simp))
    clear hb he
    go_wp2
    go_ret
    exact ⟨rfl, HB.out⟩

set_option maxRecDepth 100000 in
set_option maxHeartbeats 1000000 in
theorem quiltFault_any (a : Option Addr) (cap : Nat) (l : List Fi) (t : Int) (w : World) (hl : l.length ≤ maxLen) (hz : Sized l) (hc : Cells w a l) :
    Calls Tryd.prog 9 #[.agg #[.slice a l.length cap, .int .i64 t]] w fun e w' => e = .returned (.int .i64 (quiltF l t)) ∧ Below w.heap.size w w' := by
  have HC : Hid (Cells w a l) := hc
  clear hc
  have hr := (filesF_range l).1
  by_cases hf : filesF l = 0
  · have hfin : quiltF l t = if t < 1 ∨ 9999 < t then 1 else 0 := by simp [quiltF, hf]
    rw [hfin]
    have he : filesF l ≤ 0 := by omega
    clear hfin hf
    go_enter Tryd.func9, Tryd.ntmps9
    go_wp2_with fail
    refine (filesFault_any a cap l _ hl hz (by exact HC.out.alloc _)).mono ?_
    rintro e w1 ⟨rfl, hb⟩
    have hx : w1.cell? ⟨w.heap.size, 1, none⟩ = some (.int .i64 t) := by rw [hb.cell (p := ⟨w.heap.size, 1, none⟩) (by simp)]; simp [go_sem]
    have HB : Hid (Below w.heap.size w w1) := ((Below.refl _ _).alloc (Nat.le_refl _) _).trans (hb.mono (by simp))
    clear hb
    go_wp2
    all_goals
      go_ret
      exact ⟨ret_int (by first | rfl | (rw [if_pos (by omega)]; done) | (rw [if_neg (by omega)]; done)), HB.out⟩
  · have hfin : quiltF l t = filesF l := by simp [quiltF, hf]
    rw [hfin]
    have he : 0 < filesF l := by omega
    clear hfin hf
    go_enter Tryd.func9, Tryd.ntmps9
    go_wp2_with fail
    refine (filesFault_any a cap l _ hl hz (by exact HC.out.alloc _)).mono ?_
    rintro e w1 ⟨rfl, hb⟩
    have HB : Hid (Below w.heap.size w w1) := ((Below.refl _ _).alloc (Nat.le_refl _) _).trans (hb.mono (by simp))
    clear hb
    go_wp2
    go_ret
    exact ⟨rfl, HB.out⟩

set_option maxRecDepth 100000 in
set_option maxHeartbeats 1000000 in
theorem sameQuilt_any (a a' : Option Addr) (cap cap' : Nat) (l m : List Fi) (t s : Int) (w : World) (hl : l.length ≤ 1000) (hm : m.length ≤ 1000) (hc : Cells w a l) (hc' : Cells w a' m) :
    Calls Tryd.prog 16 #[.agg #[.slice a l.length cap, .int .i64 t], .agg #[.slice a' m.length cap', .int .i64 s]] w fun e w' => e = .returned (.bool (sameL l m && (t == s))) ∧ Below w.heap.size w w' := by
  have HC : Hid (Cells w a l) := hc
  have HC' : Hid (Cells w a' m) := hc'
  clear hc hc'
  cases hs : sameL l m
  all_goals
    go_enter Tryd.func16, Tryd.ntmps16
    go_wp2_with fail
    refine (sameFiles_any a a' cap cap' l m _ hl hm (by exact (HC.out.alloc _).alloc _) (by exact (HC'.out.alloc _).alloc _)).mono ?_
    rintro e w1 ⟨rfl, n1, hw⟩
    rw [hw, hs]
    clear hw w1
    go_wp2
    go_ret
    refine ⟨by simp, ?_⟩
    repeat (first | exact Below.refl _ _ | refine below_drewN ?_ _ | refine Below.drew ?_ | refine Below.alloc ?_ (by simp; try omega) _)

end Go.Proofs.YtihnghnafpgdfabDoor
namespace Go.Proofs.YtihnghnafpgdfabDoor
open Go.RowKit
set_option linter.unusedVariables false
set_option linter.unusedSimpArgs false

/-- What a call that does something to a quilt answers. -/
def Answers (w : World) (r : Res) (e : Ending) (w' : World) : Prop :=
  ∃ a cap, e = .returned (.tuple #[.agg #[.slice a r.l.length cap, .int .i64 r.t], errV r.n]) ∧ Slice w' a cap r.l ∧ Below w.heap.size w w'

theorem noSlice (w : World) : Slice w none 0 [] := ⟨Cells.nil _ _, Nat.le_refl _, Nat.zero_le _, fun _ => rfl⟩

/-- A quilt's box: two cells that are there, and may be written. -/
structure QBox (W : World) (B : Nat) (v : Value) (t : Int) : Prop where
  c0 : W.cell? ⟨B, 0, none⟩ = some v
  c1 : W.cell? ⟨B, 1, none⟩ = some (.int .i64 t)
  f0 : W.frozen? ⟨B, 0, none⟩ = false
  f1 : W.frozen? ⟨B, 1, none⟩ = false
  lt : B < W.heap.size
  only : ∀ o, 2 ≤ o → W.cell? ⟨B, o, none⟩ = none

theorem QBox.below {W W' : World} {B C : Nat} {v : Value} {t : Int} (h : QBox W B v t) (hb : Below C W W') (hC : B < C) : QBox W' B v t :=
  ⟨by rw [hb.cell (p := ⟨B, 0, none⟩) hC]; exact h.c0, by rw [hb.cell (p := ⟨B, 1, none⟩) hC]; exact h.c1, by rw [hb.frozen (p := ⟨B, 0, none⟩) hC]; exact h.f0, by rw [hb.frozen (p := ⟨B, 1, none⟩) hC]; exact h.f1, Nat.lt_of_lt_of_le h.lt hb.size, fun o ho => by rw [hb.cell (p := ⟨B, o, none⟩) hC]; exact h.only o ho⟩
theorem QBox.alloc {W : World} {B : Nat} {v : Value} {t : Int} (h : QBox W B v t) (o : Obj) : QBox (W.alloc o) B v t :=
  h.below ((Below.refl _ _).alloc (Nat.le_refl _) o) h.lt
theorem QBox.new (W : World) (v : Value) (t : Int) (ty : TypeId) : QBox (W.alloc (.cells #[v, .int .i64 t] ty)) W.heap.size v t :=
  ⟨by simp [go_sem], by simp [go_sem], by simp [go_sem], by simp [go_sem], by simp, fun o ho => by simp [go_sem]; omega⟩

/-- A store into a quilt's box touches no file of any slice. -/
theorem Cells.store {W : World} {B j : Nat} {u : Value} {a : Option Addr} {l : List Fi} (h : Cells W a l) (q : ∀ o, 2 ≤ o → W.cell? ⟨B, o, none⟩ = none) : Cells (W.setCell ⟨B, j, none⟩ u) a l := by
  intro i hi
  obtain ⟨b, off, rfl, c0, c1, c2⟩ := h i hi
  have hne : b ≠ B := by
    rintro rfl
    rw [q (off + i * 3 + 2) (by omega)] at c2
    exact absurd c2 (by simp)
  have hk : ∀ o, (W.setCell ⟨B, j, none⟩ u).cell? ⟨b, o, none⟩ = W.cell? ⟨b, o, none⟩ := fun o => World.cell?_of_block (a := ⟨b, o, none⟩) (Below.heap_setCell W ⟨B, j, none⟩ u b hne)
  exact ⟨b, off, rfl, by rw [hk]; exact c0, by rw [hk]; exact c1, by rw [hk]; exact c2⟩
theorem only_set {W : World} {B j : Nat} {u : Value} (q : ∀ o, 2 ≤ o → W.cell? ⟨B, o, none⟩ = none) (hj : j < 2) : ∀ o, 2 ≤ o → (W.setCell ⟨B, j, none⟩ u).cell? ⟨B, o, none⟩ = none := by
  intro o ho
  have hne : (⟨B, j, none⟩ : Addr) ≠ ⟨B, o, none⟩ := by
    intro e
    have : j = o := congrArg Addr.off e
    omega
  have h : (W.setCell ⟨B, j, none⟩ u).cell? ⟨B, o, none⟩ = W.cell? ⟨B, o, none⟩ := by
    apply World.cell?_setCell_other
    exact hne
  rw [h]
  exact q o ho
theorem Slice.store2 {W : World} {B : Nat} {a : Option Addr} {cap : Nat} {l : List Fi} (h : Slice W a cap l) (q : ∀ o, 2 ≤ o → W.cell? ⟨B, o, none⟩ = none) (u v : Value) : Slice ((W.setCell ⟨B, 0, none⟩ u).setCell ⟨B, 1, none⟩ v) a cap l :=
  ⟨(h.cells.store q).store (only_set q (by decide)), h.room, h.most, h.nil⟩

end Go.Proofs.YtihnghnafpgdfabDoor
namespace Go.Proofs.YtihnghnafpgdfabDoor
open Go.RowKit
set_option linter.unusedVariables false
set_option linter.unusedSimpArgs false

/-- A file's box. -/
structure FBox (W : World) (B : Nat) (f : Fi) : Prop where
  c0 : W.cell? ⟨B, 0, none⟩ = some (.string f.n)
  c1 : W.cell? ⟨B, 1, none⟩ = some (.string f.t)
  c2 : W.cell? ⟨B, 2, none⟩ = some (.int .i64 f.k)
  f0 : W.frozen? ⟨B, 0, none⟩ = false
  lt : B < W.heap.size
theorem FBox.below {W W' : World} {B C : Nat} {f : Fi} (h : FBox W B f) (hb : Below C W W') (hC : B < C) : FBox W' B f :=
  ⟨by rw [hb.cell (p := ⟨B, 0, none⟩) hC]; exact h.c0, by rw [hb.cell (p := ⟨B, 1, none⟩) hC]; exact h.c1, by rw [hb.cell (p := ⟨B, 2, none⟩) hC]; exact h.c2, by rw [hb.frozen (p := ⟨B, 0, none⟩) hC]; exact h.f0, Nat.lt_of_lt_of_le h.lt hb.size⟩
theorem FBox.alloc {W : World} {B : Nat} {f : Fi} (h : FBox W B f) (o : Obj) : FBox (W.alloc o) B f :=
  h.below ((Below.refl _ _).alloc (Nat.le_refl _) o) h.lt
theorem FBox.new (W : World) (f : Fi) (ty : TypeId) : FBox (W.alloc (.cells #[.string f.n, .string f.t, .int .i64 f.k] ty)) W.heap.size f :=
  ⟨by simp [go_sem], by simp [go_sem], by simp [go_sem], by simp [go_sem], by simp⟩

theorem Owns.setOther {w : World} {B : Nat} {v : Value} {l : List Fi} (h : Owns w B v l) {p : Addr} (hp : p.block < B) (u : Value) : Owns (w.setCell p u) B v l := by
  refine ⟨h.1, ?_⟩
  rcases h.2 with h0 | ⟨g, cap, cur, e, hg, hh, rest⟩
  · exact .inl h0
  · exact .inr ⟨g, cap, cur, e, hg, by rw [Below.heap_setCell _ _ _ _ (by omega)]; exact hh, rest⟩

end Go.Proofs.YtihnghnafpgdfabDoor
namespace Go.Proofs.YtihnghnafpgdfabDoor
open Go.RowKit
set_option linter.unusedVariables false
set_option linter.unusedSimpArgs false

end Go.Proofs.YtihnghnafpgdfabDoor
namespace Go.Proofs.YtihnghnafpgdfabDoor
open Go.RowKit
set_option linter.unusedVariables false
set_option linter.unusedSimpArgs false

theorem wpList_copy {ops : Array Oper} {rest : List Oper} {o : Oper} {act : Act} {Q : Exit → Act → World → Prop} (hgd : o.guard = none) (s x : Operand)
    (ho : o.op = .call { callee := .builtin .append, args := #[s, x], argTypes := #[22, 22] })
    (W : World) (a : Option Addr) (cap : Nat) (l : List Fi) (hl : l.length ≤ 100) (hsl : Slice W a cap l) (hs : act.eval s = .slice none 0 0) (hx : act.eval x = .slice a l.length cap)
    (h : ∀ v' w', Owns w' W.heap.size v' l → Below W.heap.size W w' → wpList Tryd.prog ops Q rest (act.put o.dst v') w') : wpList Tryd.prog ops Q (o :: rest) act W := by
  obtain ⟨i0, hi, hz0, hz1, hz2⟩ := info_parts Tryd.infoFile
  have hown : Owns W W.heap.size (.slice none 0 0) [] := World.ownsRow_nil _ _ _ _
  cases a with
  | none =>
    have e : l = [] := by
      cases l with
      | nil => rfl
      | cons g r => obtain ⟨_, _, e, _⟩ := hsl.cells 0 (by simp); cases e
    subst e
    have e := hsl.nil rfl
    subst e
    refine wpList_append_own_none hgd s x 22 ho W.heap.size 53 i0 3 Tryd.underlying22 hi _ _ _ hs hown (by simpa using hx) ?_
    exact h _ _ hown (Below.refl _ _)
  | some p =>
    have hcells : ∀ q u, (flat l)[q]? = some u → W.cell? (p.add q) = some u := by
      rcases hsl.cells.spot p rfl with rfl | hsp
      · intro q u hu; simp [flat] at hu
      · obtain ⟨xb, xo, xs⟩ := p
        simp at hsp
        subst hsp
        exact hsl.cells.flat
    refine wpList_append_own _ hgd s x 22 ho W.heap.size 53 i0 _ 3 40 Tryd.underlying22 hi hz0 hz1 hz2 rfl (by decide) _ _ _ hs hown p l.length cap (flat l) hx (flat_length _) hcells (flat_one _) (by unfold maxLen; simp; omega) (by simp; omega) (Nat.le_refl _) ?_
    intro v' w' hown' hgrow hnil
    refine h v' w' ?_ ((Below.refl _ _).grown hgrow (Nat.le_refl _) (fun q hq => (hown.lt q hq).1))
    show World.ownsRow _ _ _ _ _ _ _
    simpa [flat] using hown'

end Go.Proofs.YtihnghnafpgdfabDoor
