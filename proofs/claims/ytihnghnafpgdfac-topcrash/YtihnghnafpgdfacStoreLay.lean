/-
  A TEXT IS LAID ON A SIDE, AS A WHOLE: lay.
-/
import Derived.Test.YtihnghnafpgdfacStoreChunk
import Derived.Test.YtihnghnafpgdfacStoreFormat
namespace Go.Proofs.Ytihnghnafpgdfac
open Go Go.RowKit Go.BigFrame
set_option linter.unusedVariables false
set_option linter.unusedSimpArgs false

def pieceL (T : ByteArray) (i : Nat) : List UInt8 := (T.data.toList.drop (40 * i)).take 40
def piecesT (T : ByteArray) (k : Nat) : List ByteArray := (List.range k).map fun i => baL (pieceL T i)
theorem piecesT_length (T : ByteArray) (k : Nat) : (piecesT T k).length = k := by simp [piecesT]
theorem pieceL_length {T : ByteArray} {k i : Nat} (hT : T.size = 40 * k) (hi : i < k) : (pieceL T i).length = 40 := by
  unfold pieceL
  rw [List.length_take, List.length_drop, ba_len]
  omega
/-- What lay does, and answers. -/
def layT (d : Dk) (i : Nat) (T : ByteArray) (k : Nat) : Dk × Int :=
  if (layD d (2 + i * 12) (piecesT T k)).2 = 0 then seqD (layD d (2 + i * 12) (piecesT T k)).1 [(i, baL (headL i T)), (1 - i, ⟨#[]⟩)] else layD d (2 + i * 12) (piecesT T k)
theorem layT_stop {d D : Dk} {i k : Nat} {T : ByteArray} {e : Int} (h : writesD d (2 + i * 12) (piecesT T k) = (D, e)) (he : ¬ e = 0) : layT d i T k = (D, e) := by
  have : layD d (2 + i * 12) (piecesT T k) = (D, e) := by unfold layD; rw [h, if_neg he]
  unfold layT
  rw [this, if_neg he]
theorem layT_flush {d D : Dk} {i k : Nat} {T : ByteArray} (h : writesD d (2 + i * 12) (piecesT T k) = (D, 0)) (he : ¬ stepN D = 0) : layT d i T k = (flushD D, stepN D) := by
  have : layD d (2 + i * 12) (piecesT T k) = (flushD D, stepN D) := by unfold layD; rw [h, if_pos rfl]
  unfold layT
  rw [this, if_neg he]
theorem layT_head {d D : Dk} {i k : Nat} {T : ByteArray} (h : writesD d (2 + i * 12) (piecesT T k) = (D, 0)) (he : stepN D = 0) : layT d i T k = if (layD (flushD D) i [baL (headL i T)]).2 = 0 then layD (layD (flushD D) i [baL (headL i T)]).1 (1 - i) [⟨#[]⟩] else layD (flushD D) i [baL (headL i T)] := by
  have : layD d (2 + i * 12) (piecesT T k) = (flushD D, stepN D) := by unfold layD; rw [h, if_pos rfl]
  unfold layT
  rw [this, if_pos he]
  simp only [seqD]
  split
  · rename_i h1
    split
    · rename_i h2
      exact (Prod.ext rfl h2.symm : ((layD (layD (flushD D) i [baL (headL i T)]).1 (1 - i) [⟨#[]⟩]).1, (0 : Int)) = layD (layD (flushD D) i [baL (headL i T)]).1 (1 - i) [⟨#[]⟩])
    · rfl
  · rfl

/-- Where the pieces lie. -/
theorem piece_cells {W : World} {g : Nat} {T : ByteArray} {C k i : Nat} {fr : Nat × Nat} (h : W.heap[g]? = some (.cells (bytesRow T C) 5 fr)) (hT : T.size = 40 * k) (hi : i < k) :
    ∀ j (hj : j < (pieceL T i).length), W.cell? ((⟨g, 40 * i, none⟩ : Addr).add j) = some (.int .u8 ((pieceL T i)[j].toNat : Int)) := by
  intro j hj
  have h40 : j < 40 := by rw [pieceL_length hT hi] at hj; exact hj
  have hlt : 40 * i + j < T.data.size := by have : T.data.size = T.size := rfl; omega
  rw [addr_add, cell_block h]
  show (bytesRow T C)[40 * i + j]? = _
  rw [bytesRow_at T C _ hlt]
  simp only [pieceL, List.getElem_take, List.getElem_drop, Array.getElem_toList]

structure LayMid (w : World) (p : Dp) (d : Dk) (a0 : Nat) (T : ByteArray) (k g C : Nat) (pre : List Nat) (W : World) : Prop where
  disk : ∃ u D, DiskAt W { p with wv := u } D ∧ NewTo p w u ∧ D.wr.length ≤ d.wr.length + pre.length ∧ writesD d a0 (piecesT T k) = writesD D (a0 + pre.length) ((piecesT T k).drop pre.length)
  touch : Touch (dOwn p) w W
  res : Boxed W (w.heap.size + 1) 34 .nilIface
  box : Boxed W w.heap.size 25 (.pointer (some ⟨p.B, 0, none⟩))
  at' : Boxed W (w.heap.size + 1 + 1) 3 (.int .i64 ((a0 + pre.length : Nat) : Int))
  row : ∃ fr, W.heap[g]? = some (.cells (bytesRow T C) 5 fr)
  bs : ∃ v, Boxed W (g + 1) 109 v
  bn : ∃ v, Boxed W (g + 1 + 1) 3 v
structure LayBad (w : World) (p : Dp) (d : Dk) (a0 : Nat) (T : ByteArray) (k g : Nat) (c : Code) (pre : List Nat) (W : World) : Prop where
  code : c = .ret
  disk : ∃ u D e, DiskAt W { p with wv := u } D ∧ NewTo p w u ∧ writesD d a0 (piecesT T k) = (D, e) ∧ ¬ e = 0 ∧ Boxed W (w.heap.size + 1) 34 (errV e)
  touch : Touch (dOwn p) w W
  bs : ∃ v, Boxed W (g + 1) 109 v
  bn : ∃ v, Boxed W (g + 1 + 1) 3 v

theorem disk_kept {W W' : World} {row : Option Nat} {Z : Nat} {p : Dp} {d : Dk} (h : DiskAt W p d) (hg : W.grownBy W' row) (hr : ∀ r, row = some r → Z ≤ r ∧ ∃ o : Obj, W.heap[r]? = some o ∧ o.isCells = false) : DiskAt W' p d :=
  h.far fun k hk => by
    obtain ⟨C, T, fr, e, -⟩ := h.kind hk
    rw [cells_kept hg hr e, e]
theorem disk_box {W : World} {p : Dp} {d : Dk} {b : Nat} {T : TypeId} {u : Value} (v : Value) (h : DiskAt W p d) (hb : Boxed W b T u) (hT : T ≠ 74 ∧ T ≠ 89 ∧ T ≠ 91) : DiskAt (W.setCell ⟨b, 0, none⟩ v) p d :=
  h.far fun k hk => Below.heap_setCell _ _ _ _ (fun e => by
    obtain ⟨C, T', fr, e', hT'⟩ := h.kind hk
    simp only at e
    rw [e, show W.heap[b]? = _ from hb] at e'
    simp at e'
    rcases hT' with hT' | hT' | hT'
    · exact hT.1 (by rw [e'.2.1, hT'])
    · exact hT.2.1 (by rw [e'.2.1, hT'])
    · exact hT.2.2 (by rw [e'.2.1, hT']))
theorem touch_kept {S : Nat → Prop} {w W W' : World} {row : Option Nat} {Z : Nat} (h : Touch S w W) (hZ : w.heap.size ≤ Z) (hg : W.grownBy W' row) (hr : ∀ r, row = some r → Z ≤ r ∧ ∃ o : Obj, W.heap[r]? = some o ∧ o.isCells = false) : Touch S w W' :=
  ⟨hg.os.trans h.os, hg.tape.trans h.tape, hg.output.trans h.output, Nat.le_trans h.size hg.size, fun k hk hn => (hg.block k (Nat.lt_of_lt_of_le hk h.size) (fun e => by have := (hr k e.symm).1; omega)).trans (h.block k hk hn)⟩
theorem touch_new {S : Nat → Prop} {w W : World} (h : Touch S w W) {b : Nat} (hb : w.heap.size ≤ b) (i : Nat) (v : Value) : Touch S w (W.setCell ⟨b, i, none⟩ v) :=
  ⟨h.os, h.tape, h.output, by rw [World.size_setCell]; exact h.size, fun k hk hn => (Below.heap_setCell W ⟨b, i, none⟩ v k (by simp; omega)).trans (h.block k hk hn)⟩

section
variable {w : World} {p : Dp} {d : Dk} {a0 k g C : Nat} {T : ByteArray}
theorem layMid_own (Z : Nat) (hZ : w.heap.size ≤ Z) : OwnFrom Z (LayMid w p d a0 T k g C) := fun s W W' row h hg hr => by
  obtain ⟨⟨u, D, h1, h2, h3, h4⟩, h5, h6, h7, h8, ⟨fr, h9⟩, ⟨v1, h10⟩, ⟨v2, h11⟩⟩ := h
  exact ⟨⟨u, D, disk_kept h1 hg hr, h2, h3, h4⟩, touch_kept h5 hZ hg hr, cells_kept hg hr h6, cells_kept hg hr h7, cells_kept hg hr h8, ⟨fr, cells_kept hg hr h9⟩, ⟨v1, cells_kept hg hr h10⟩, ⟨v2, cells_kept hg hr h11⟩⟩
theorem layBad_own (Z : Nat) (hZ : w.heap.size ≤ Z) (c : Code) : OwnFrom Z (LayBad w p d a0 T k g c) := fun s W W' row h hg hr => by
  obtain ⟨h0, ⟨u, D, e, h1, h2, h3, h4, h6⟩, h5, ⟨v1, h10⟩, ⟨v2, h11⟩⟩ := h
  exact ⟨h0, ⟨u, D, e, disk_kept h1 hg hr, h2, h3, h4, cells_kept hg hr h6⟩, touch_kept h5 hZ hg hr, ⟨v1, cells_kept hg hr h10⟩, ⟨v2, cells_kept hg hr h11⟩⟩
theorem layMid_box (hg3 : g = w.heap.size + 1 + 1 + 1) (s : List Nat) (W : World) (b : Nat) (v : Value) (hb : b = g + 1 ∨ b = g + 1 + 1) (h : LayMid w p d a0 T k g C s W) : LayMid w p d a0 T k g C s (W.setCell ⟨b, 0, none⟩ v) := by
  obtain ⟨⟨u, D, h1, h2, h3, h4⟩, h5, h6, h7, h8, ⟨fr, h9⟩, ⟨v1, h10⟩, ⟨v2, h11⟩⟩ := h
  rcases hb with rfl | rfl
  · exact ⟨⟨u, D, disk_box v h1 h10 (by decide), h2, h3, h4⟩, touch_new h5 (by omega) 0 v, setBox_other h6 (by omega), setBox_other h7 (by omega), setBox_other h8 (by omega), ⟨fr, setBox_other h9 (by omega)⟩, ⟨v, h10.set v⟩, ⟨v2, setBox_other h11 (by omega)⟩⟩
  · exact ⟨⟨u, D, disk_box v h1 h11 (by decide), h2, h3, h4⟩, touch_new h5 (by omega) 0 v, setBox_other h6 (by omega), setBox_other h7 (by omega), setBox_other h8 (by omega), ⟨fr, setBox_other h9 (by omega)⟩, ⟨v1, setBox_other h10 (by omega)⟩, ⟨v, h11.set v⟩⟩
theorem layBad_box (hg3 : g = w.heap.size + 1 + 1 + 1) (c : Code) (s : List Nat) (W : World) (b : Nat) (v : Value) (hb : b = g + 1 ∨ b = g + 1 + 1) (h : LayBad w p d a0 T k g c s W) : LayBad w p d a0 T k g c s (W.setCell ⟨b, 0, none⟩ v) := by
  obtain ⟨h0, ⟨u, D, e, h1, h2, h3, h4, h6⟩, h5, ⟨v1, h10⟩, ⟨v2, h11⟩⟩ := h
  rcases hb with rfl | rfl
  · exact ⟨h0, ⟨u, D, e, disk_box v h1 h10 (by decide), h2, h3, h4, setBox_other h6 (by omega)⟩, touch_new h5 (by omega) 0 v, ⟨v, h10.set v⟩, ⟨v2, setBox_other h11 (by omega)⟩⟩
  · exact ⟨h0, ⟨u, D, e, disk_box v h1 h11 (by decide), h2, h3, h4, setBox_other h6 (by omega)⟩, touch_new h5 (by omega) 0 v, ⟨v1, setBox_other h10 (by omega)⟩, ⟨v, h11.set v⟩⟩
end
end Go.Proofs.Ytihnghnafpgdfac
