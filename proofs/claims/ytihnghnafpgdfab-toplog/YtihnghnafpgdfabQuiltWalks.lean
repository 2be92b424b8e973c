/-
  THE WALKS OF quilt.Write, Drop, Rename.
-/
import Derived.Test.YtihnghnafpgdfabQuiltBase
import Derived.Test.YtihnghnafpgdfabQuiltPure
namespace Go.Proofs.Ytihnghnafpgdfab
open Go.RowKit
set_option linter.unusedVariables false
set_option linter.unusedSimpArgs false

/-- What a call that does something to a quilt answers. -/
def Answers (w : World) (r : Res) (e : Ending) (w' : World) : Prop :=
  ∃ a cap, e = .returned (.tuple #[.agg #[.slice a r.l.length cap, .int .i64 r.t], errV r.n]) ∧ Slice w' a cap r.l ∧ Below w.heap.size w w'

theorem noSlice (w : World) : Slice w none 0 [] := ⟨Cells.nil _ _, Nat.le_refl _, Nat.zero_le _, fun _ => rfl⟩

/-- A quilt's box: two cells that are there, and may be written. -/
structure QBox (W : World) (B : Nat) (v : Value) (t : Int) : Prop where
  c0 : W.cell? ⟨B, 0, none⟩ = some v
  c1 : W.cell? ⟨B, 1, none⟩ = some (.int .i64 t)
  f0 : W.frozen? ⟨B, 0, none⟩ = false
  f1 : W.frozen? ⟨B, 1, none⟩ = false
  lt : B < W.heap.size
  only : ∀ o, 2 ≤ o → W.cell? ⟨B, o, none⟩ = none

theorem QBox.below {W W' : World} {B C : Nat} {v : Value} {t : Int} (h : QBox W B v t) (hb : Below C W W') (hC : B < C) : QBox W' B v t :=
  ⟨by rw [hb.cell (p := ⟨B, 0, none⟩) hC]; exact h.c0, by rw [hb.cell (p := ⟨B, 1, none⟩) hC]; exact h.c1, by rw [hb.frozen (p := ⟨B, 0, none⟩) hC]; exact h.f0, by rw [hb.frozen (p := ⟨B, 1, none⟩) hC]; exact h.f1, Nat.lt_of_lt_of_le h.lt hb.size, fun o ho => by rw [hb.cell (p := ⟨B, o, none⟩) hC]; exact h.only o ho⟩
theorem QBox.alloc {W : World} {B : Nat} {v : Value} {t : Int} (h : QBox W B v t) (o : Obj) : QBox (W.alloc o) B v t :=
  h.below ((Below.refl _ _).alloc (Nat.le_refl _) o) h.lt
theorem QBox.new (W : World) (v : Value) (t : Int) (ty : TypeId) : QBox (W.alloc (.cells #[v, .int .i64 t] ty)) W.heap.size v t :=
  ⟨by simp [go_sem], by simp [go_sem], by simp [go_sem], by simp [go_sem], by simp, fun o ho => by simp [go_sem]; omega⟩

/-- A store into a quilt's box touches no file of any slice. -/
theorem Cells.store {W : World} {B j : Nat} {u : Value} {a : Option Addr} {l : List Fi} (h : Cells W a l) (q : ∀ o, 2 ≤ o → W.cell? ⟨B, o, none⟩ = none) : Cells (W.setCell ⟨B, j, none⟩ u) a l := by
  intro i hi
  obtain ⟨b, off, rfl, c0, c1, c2⟩ := h i hi
  have hne : b ≠ B := by
    rintro rfl
    rw [q (off + i * 3 + 2) (by omega)] at c2
    exact absurd c2 (by simp)
  have hk : ∀ o, (W.setCell ⟨B, j, none⟩ u).cell? ⟨b, o, none⟩ = W.cell? ⟨b, o, none⟩ := fun o => World.cell?_of_block (a := ⟨b, o, none⟩) (Below.heap_setCell W ⟨B, j, none⟩ u b hne)
  exact ⟨b, off, rfl, by rw [hk]; exact c0, by rw [hk]; exact c1, by rw [hk]; exact c2⟩
theorem only_set {W : World} {B j : Nat} {u : Value} (q : ∀ o, 2 ≤ o → W.cell? ⟨B, o, none⟩ = none) (hj : j < 2) : ∀ o, 2 ≤ o → (W.setCell ⟨B, j, none⟩ u).cell? ⟨B, o, none⟩ = none := by
  intro o ho
  have hne : (⟨B, j, none⟩ : Addr) ≠ ⟨B, o, none⟩ := by
    intro e
    have : j = o := congrArg Addr.off e
    omega
  have h : (W.setCell ⟨B, j, none⟩ u).cell? ⟨B, o, none⟩ = W.cell? ⟨B, o, none⟩ := by
    apply World.cell?_setCell_other
    exact hne
  rw [h]
  exact q o ho
theorem Slice.store2 {W : World} {B : Nat} {a : Option Addr} {cap : Nat} {l : List Fi} (h : Slice W a cap l) (q : ∀ o, 2 ≤ o → W.cell? ⟨B, o, none⟩ = none) (u v : Value) : Slice ((W.setCell ⟨B, 0, none⟩ u).setCell ⟨B, 1, none⟩ v) a cap l :=
  ⟨(h.cells.store q).store (only_set q (by decide)), h.room, h.most, h.nil⟩

/-- turned, in one word. -/
theorem turned_any (t : Int) (a : Option Addr) (cap : Nat) (l : List Fi) (w : World) (h0 : 0 ≤ t) (b : Option Addr) (m c : Nat) (hs : Slice w a cap l) :
    Calls Try.prog 102 #[.agg #[.slice b m c, .int .i64 t], .slice a l.length cap] w (Answers w (turnR t l)) := by
  by_cases ht : 9999 ≤ t
  · have e : turnR t l = ⟨[], 0, 7⟩ := by simp [turnR, ht]
    rw [e]
    refine (turned_full (.slice b m c) t a l.length cap w ht b m c).mono ?_
    rintro e w' ⟨rfl, hb⟩
    exact ⟨none, 0, rfl, noSlice _, hb⟩
  · have e : turnR t l = ⟨l, t + 1, 0⟩ := by simp [turnR, ht]
    rw [e]
    refine (turned_more t a l.length cap w h0 (by omega) b m c).mono ?_
    rintro e w' ⟨rfl, hb⟩
    exact ⟨a, cap, rfl, hs.below hb, hb⟩

set_option maxRecDepth 100000 in
set_option maxHeartbeats 1000000 in
theorem write_any (a : Option Addr) (cap : Nat) (l : List Fi) (t : Int) (name text : ByteArray) (w : World) (hq : GoodQ l t) (hs : Slice w a cap l) (hn : name.size ≤ maxLen) (hx : text.size ≤ maxLen) :
    Calls Try.prog 67 #[.agg #[.slice a l.length cap, .int .i64 t], .string name, .string text] w (Answers w (writeR l t name text)) := by
  have HS : Hid (Slice w a cap l) := hs
  have HQ : Hid (GoodQ l t) := hq
  have hl := hq.files.few
  have ht0 := hq.low
  have ht1 := hq.high
  have hk : 0 ≤ (getD' (getF l name)).k ∧ (getD' (getF l name)).k ≤ 9999 := by
    cases hg : getF l name with
    | none => exact ⟨by decide, by decide⟩
    | some f => have := hq.files.times (getF_mem hg).1; exact ⟨by simp [getD']; omega, by simp [getD']; omega⟩
  have hwf : writeF l name text = ⟨name, text, (getD' (getF l name)).k + 1⟩ := rfl
  clear hs hq
  have HR : Hid (writeR l t name text = nextR t (putL l (writeF l name text)) (putN l (writeF l name text))) := rfl
  generalize writeR l t name text = r at *
  generalize hg : getD' (getF l name) = g at *
  have HG : Hid (getD' (getF l name) = g) := hg
  generalize hwf' : writeF l name text = f at *
  subst hwf
  clear hg hwf'
  obtain ⟨hk0, hk1⟩ := hk
  go_enter Try.func67, Try.ntmps67
  go_wp2_with fail
  refine (get_any a cap l name _ HQ.out.files (by exact (HS.out.cells.alloc _).alloc _)).mono ?_
  rintro e w1 ⟨rfl, hb⟩
  rw [getV_eq, HG.out]
  have q1 : QBox w1 w.heap.size (.slice a l.length cap) t := ((QBox.new w _ t _).alloc _).below hb (by simp; omega)
  have s1 : QBox w1 (w.heap.size + 1) (.slice none 0 0) 0 := by
    have := QBox.new (w.alloc (.cells #[.slice a l.length cap, .int .i64 t] 30)) (.slice none 0 0) 0 30
    rw [World.size_alloc] at this
    exact this.below hb (by simp)
  have HB1 : Hid (Below w.heap.size w w1) := (((Below.refl _ _).alloc (Nat.le_refl _) _).alloc (by simp) _).trans (hb.mono (by simp; omega))
  have HS1 : Hid (Slice w1 a cap l) := HS.out.below HB1.out
  have HQ1 : Hid (QBox w1 w.heap.size (.slice a l.length cap) t) := q1
  have HR1 : Hid (QBox w1 (w.heap.size + 1) (.slice none 0 0) 0) := s1
  obtain ⟨x0, x1, _, _, xl, _⟩ := q1
  clear hb s1
  go_wp2_with fail
  refine (put_any a cap l ⟨name, text, g.k + 1⟩ _ ⟨hn, hx⟩ HQ.out.files (by exact HS1.out.below ((Below.refl _ _).alloc (Nat.le_refl _) _))).mono ?_
  rintro e w2 ⟨v, rfl, hown, hb⟩
  obtain ⟨a1, cap1, rfl, hs1⟩ := hown.slice
  have q2 : QBox w2 w.heap.size (.slice a l.length cap) t := (HQ1.out.alloc _).below hb (by simp; have := HQ1.out.lt; omega)
  have s2 : QBox w2 (w.heap.size + 1) (.slice none 0 0) 0 := (HR1.out.alloc _).below hb (by simp; have := HR1.out.lt; omega)
  have HB2 : Hid (Below w.heap.size w w2) := (HB1.out.alloc HB1.out.size _).trans (hb.mono (by simp; have := HB1.out.size; omega))
  have HS2 : Hid (Slice w2 a1 cap1 (putL l ⟨name, text, g.k + 1⟩)) := hs1
  have HR2 : Hid (QBox w2 (w.heap.size + 1) (.slice none 0 0) 0) := s2
  clear x0 x1 xl HQ1 HR1 HS1 HB1 hb hown hs1
  obtain ⟨x0, x1, _, _, xl, _⟩ := q2
  obtain ⟨y0, y1, yf0, yf1, yl, yo⟩ := s2
  have hpr := (putN_range l ⟨name, text, g.k + 1⟩).1
  by_cases hp : putN l ⟨name, text, g.k + 1⟩ = 0
  · have he : errV (putN l ⟨name, text, g.k + 1⟩) = .nilIface := errV_zero hp
    rw [he]
    have HRR : Hid (r = turnR t (putL l ⟨name, text, g.k + 1⟩)) := by show _ = _; rw [HR.out]; simp [nextR, hp]
    clear he hp hpr HR
    go_wp2_with fail
    refine (turned_any t a1 cap1 _ _ (by omega) a l.length cap HS2.out).mono ?_
    rintro e w3 ⟨a2, cap2, rfl, hs3, hb⟩
    rw [← HRR.out]
    rw [← HRR.out] at hs3
    have s3 := HR2.out.below hb HR2.out.lt
    have HB3 : Hid (Below w.heap.size w w3) := HB2.out.trans (hb.mono HB2.out.size)
    have HS3 : Hid (Slice w3 a2 cap2 r.l) := hs3
    clear y0 y1 yf0 yf1 yl yo hb hs3
    obtain ⟨y0, y1, yf0, yf1, yl, yo⟩ := s3
    have HYO : Hid (∀ o, 2 ≤ o → w3.cell? ⟨w.heap.size + 1, o, none⟩ = none) := yo
    clear yo
    go_wp2
    refine bodyPost_ret (v := .tuple #[.agg #[.slice a2 r.l.length cap2, .int .i64 r.t], errV r.n]) (by simp [results, Try.results67, go_sem, y0, y1, yl]) rfl ⟨a2, cap2, rfl, ?_, ?_⟩
    · exact HS3.out.store2 HYO.out _ _
    · exact (HB3.out.setCell (by simp) _).setCell (by simp) _
  · have he : errV (putN l ⟨name, text, g.k + 1⟩) = .iface 118 (.int .i64 (putN l ⟨name, text, g.k + 1⟩)) := errV_pos hp
    have HRR : Hid (r = ⟨[], 0, putN l ⟨name, text, g.k + 1⟩⟩) := by show _ = _; rw [HR.out]; simp [nextR, hp]
    rw [he]
    have HE : Hid (errV (putN l ⟨name, text, g.k + 1⟩) = .iface 118 (.int .i64 (putN l ⟨name, text, g.k + 1⟩))) := he
    clear he hp
    have HYO : Hid (∀ o, 2 ≤ o → w2.cell? ⟨w.heap.size + 1, o, none⟩ = none) := yo
    clear yo
    go_wp2
    rw [HRR.out]
    refine bodyPost_ret (v := .tuple #[.agg #[.slice none 0 0, .int .i64 0], .iface 118 (.int .i64 (putN l ⟨name, text, g.k + 1⟩))]) (by simp [results, Try.results67, go_sem, y0, y1, yl]) rfl ⟨none, 0, (by rw [HE.out]; rfl), noSlice _, ?_⟩
    exact (HB2.out.setCell (by simp) _).setCell (by simp) _

set_option maxRecDepth 100000 in
set_option maxHeartbeats 1000000 in
theorem dropQ_any (a : Option Addr) (cap : Nat) (l : List Fi) (t : Int) (name : ByteArray) (w : World) (hq : GoodQ l t) (hs : Slice w a cap l) :
    Calls Try.prog 68 #[.agg #[.slice a l.length cap, .int .i64 t], .string name] w (Answers w (dropR' l t name)) := by
  have HS : Hid (Slice w a cap l) := hs
  have HQ : Hid (GoodQ l t) := hq
  have hl := hq.files.few
  have ht0 := hq.low
  have ht1 := hq.high
  clear hs hq
  have HR : Hid (dropR' l t name = nextR t (dropL l name) (dropN l name)) := rfl
  generalize dropR' l t name = r at *
  go_enter Try.func68, Try.ntmps68
  go_wp2_with fail
  refine (drop_any a cap l name _ HQ.out.files (by exact (HS.out.below ((Below.refl _ _).alloc (Nat.le_refl _) _)).below ((Below.refl _ _).alloc (Nat.le_refl _) _))).mono ?_
  rintro e w2 ⟨v, rfl, hown, hb⟩
  obtain ⟨a1, cap1, rfl, hs1⟩ := hown.slice
  have q2 : QBox w2 w.heap.size (.slice a l.length cap) t := ((QBox.new w _ t _).alloc _).below hb (by simp; omega)
  have s2 : QBox w2 (w.heap.size + 1) (.slice none 0 0) 0 := by
    have := QBox.new (w.alloc (.cells #[.slice a l.length cap, .int .i64 t] 30)) (.slice none 0 0) 0 30
    rw [World.size_alloc] at this
    exact this.below hb (by simp)
  have HB2 : Hid (Below w.heap.size w w2) := (((Below.refl _ _).alloc (Nat.le_refl _) _).alloc (by simp) _).trans (hb.mono (by simp; omega))
  have HS2 : Hid (Slice w2 a1 cap1 (dropL l name)) := hs1
  have HR2 : Hid (QBox w2 (w.heap.size + 1) (.slice none 0 0) 0) := s2
  clear hb hown hs1
  obtain ⟨x0, x1, _, _, xl, _⟩ := q2
  obtain ⟨y0, y1, yf0, yf1, yl, yo⟩ := s2
  by_cases hp : dropN l name = 0
  · have he : errV (dropN l name) = .nilIface := errV_zero hp
    rw [he]
    have HRR : Hid (r = turnR t (dropL l name)) := by show _ = _; rw [HR.out]; simp [nextR, hp]
    clear he hp HR
    go_wp2_with fail
    refine (turned_any t a1 cap1 _ _ (by omega) a l.length cap HS2.out).mono ?_
    rintro e w3 ⟨a2, cap2, rfl, hs3, hb⟩
    rw [← HRR.out]
    rw [← HRR.out] at hs3
    have s3 := HR2.out.below hb HR2.out.lt
    have HB3 : Hid (Below w.heap.size w w3) := HB2.out.trans (hb.mono HB2.out.size)
    have HS3 : Hid (Slice w3 a2 cap2 r.l) := hs3
    clear y0 y1 yf0 yf1 yl yo hb hs3
    obtain ⟨y0, y1, yf0, yf1, yl, yo⟩ := s3
    have HYO : Hid (∀ o, 2 ≤ o → w3.cell? ⟨w.heap.size + 1, o, none⟩ = none) := yo
    clear yo
    go_wp2
    refine bodyPost_ret (v := .tuple #[.agg #[.slice a2 r.l.length cap2, .int .i64 r.t], errV r.n]) (by simp [results, Try.results68, go_sem, y0, y1, yl]) rfl ⟨a2, cap2, rfl, ?_, ?_⟩
    · exact HS3.out.store2 HYO.out _ _
    · exact (HB3.out.setCell (by simp) _).setCell (by simp) _
  · have he : errV (dropN l name) = .iface 118 (.int .i64 (dropN l name)) := errV_pos hp
    have HRR : Hid (r = ⟨[], 0, dropN l name⟩) := by show _ = _; rw [HR.out]; simp [nextR, hp]
    rw [he]
    have HE : Hid (errV (dropN l name) = .iface 118 (.int .i64 (dropN l name))) := he
    clear he hp yo
    go_wp2
    rw [HRR.out]
    refine bodyPost_ret (v := .tuple #[.agg #[.slice none 0 0, .int .i64 0], .iface 118 (.int .i64 (dropN l name))]) (by simp [results, Try.results68, go_sem, y0, y1, yl]) rfl ⟨none, 0, (by rw [HE.out]; rfl), noSlice _, ?_⟩
    exact (HB2.out.setCell (by simp) _).setCell (by simp) _

end Go.Proofs.Ytihnghnafpgdfab
