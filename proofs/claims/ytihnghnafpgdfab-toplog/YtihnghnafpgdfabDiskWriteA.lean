/-
  LAWS ON A WRITE AS A WHOLE.
-/
import Derived.Test.YtihnghnafpgdfabDiskFlush
import Derived.Laws.AppendOwn
namespace Go.Proofs.Ytihnghnafpgdfab
open Go.RowKit
set_option linter.unusedVariables false
set_option linter.unusedSimpArgs false

/-- A write without bytes: its cells. -/
def zeroW (i b : Int) : Array Value := (.int .i64 i :: .int .i64 b :: List.replicate 40 (.int .u8 0)).toArray
theorem zeroW_size (i b : Int) : (zeroW i b).size = 42 := by simp [zeroW]
theorem zeroW_one (i b : Int) : (zeroW i b).all (·.oneCell') = true := by simp [zeroW, Value.oneCell']
theorem Try.sizeWrite : (Try.prog.info? 129).map (·.size) = some 42 := by kernel_rfl
theorem Try.zeroWrite : (Try.prog.info? 129).map (·.zero) = some (some (.agg (zeroW 0 0))) := by kernel_rfl

set_option maxRecDepth 100000 in
theorem run_build_write (i b : Int) (w : World) : (Instr.build 129 #[(0, .int .i64 i), (1, .int .i64 b)]).run Try.prog w = .ok (.agg (zeroW i b)) w := by
  have h0 : (Instr.build 129 #[(0, .int .i64 i), (1, .int .i64 b)]).run Try.prog w = .ok (.agg #[.int .i64 i, .int .i64 b, .int .u8 0, .int .u8 0, .int .u8 0, .int .u8 0, .int .u8 0, .int .u8 0, .int .u8 0, .int .u8 0, .int .u8 0, .int .u8 0, .int .u8 0, .int .u8 0, .int .u8 0, .int .u8 0, .int .u8 0, .int .u8 0, .int .u8 0, .int .u8 0, .int .u8 0, .int .u8 0, .int .u8 0, .int .u8 0, .int .u8 0, .int .u8 0, .int .u8 0, .int .u8 0, .int .u8 0, .int .u8 0, .int .u8 0, .int .u8 0, .int .u8 0, .int .u8 0, .int .u8 0, .int .u8 0, .int .u8 0, .int .u8 0, .int .u8 0, .int .u8 0, .int .u8 0, .int .u8 0]) w := by
    kernel_rfl
  rw [h0]
  rfl
theorem wpList_build_write {w : World} {ops : Array Oper} {rest : List Oper} {o : Oper} {a : Act} {Q : Exit → Act → World → Prop} (hgd : o.guard = none) (x y : Operand) (ho : o.op = .build 129 #[(0, x), (1, y)]) (i b : Int) (hx : a.eval x = .int .i64 i) (hy : a.eval y = .int .i64 b)
    (h : wpList Try.prog ops Q rest (a.put o.dst (.agg (zeroW i b))) w) : wpList Try.prog ops Q (o :: rest) a w := by
  refine wpList_plain hgd fun K hK => ?_
  have hrun := run_build_write i b w
  unfold Oper.wp execOp
  simp [ho, hx, hy, Sem.run_bind, hrun, Result.andThen]
  exact hK _ _ h

set_option maxRecDepth 100000 in
theorem run_alloc_write (w : World) : (Instr.alloc 129 true (.tuple #[])).run Try.prog w = .ok (.pointer (some ⟨w.heap.size, 0, none⟩)) (w.alloc (.cells (zeroW 0 0) 129)) := by
  have hz := Try.zeroWrite
  cases hq : Try.prog.info? 129 with
  | none => simp [hq] at hz
  | some i =>
    have hz' : i.zero = some (.agg (zeroW 0 0)) := by simpa [hq] using hz
    simp [Instr.alloc, zeroValue, typeInfo, hq, hz', newVar, newRow, Value.cells, Sem.run_bind, go_sem]
theorem wpList_alloc_write {w : World} {ops : Array Oper} {rest : List Oper} {o : Oper} {a : Act} {Q : Exit → Act → World → Prop} (hgd : o.guard = none) (ho : o.op = .alloc 129)
    (h : wpList Try.prog ops Q rest (a.put o.dst (.pointer (some ⟨w.heap.size, 0, none⟩))) (w.alloc (.cells (zeroW 0 0) 129))) : wpList Try.prog ops Q (o :: rest) a w := by
  refine wpList_plain hgd fun K hK => ?_
  have hrun := run_alloc_write w
  unfold Oper.wp execOp
  simp [ho, Sem.run_bind, hrun, Result.andThen]
  exact hK _ _ h

/-- Cells in the middle of a block are stored: what the block holds then. -/
theorem heap_setCells (b : Nat) (t : TypeId) (fr : Nat × Nat) : ∀ (L pre mid suf : List Value) (w : World), mid.length = L.length → w.heap[b]? = some (.cells (pre ++ mid ++ suf).toArray t fr) → (w.setCells b pre.length L).heap[b]? = some (.cells (pre ++ L ++ suf).toArray t fr)
  | [], pre, mid, suf, w, hl, h => by
    have e : mid = [] := List.eq_nil_of_length_eq_zero hl
    subst e
    simpa [World.setCells] using h
  | v :: L, pre, [], suf, w, hl, h => by simp at hl
  | v :: L, pre, m :: mid, suf, w, hl, h => by
    have h1 := heap_set h pre.length v
    have e1 : ((pre ++ m :: mid ++ suf).toArray).setIfInBounds pre.length v = ((pre ++ [v]) ++ mid ++ suf).toArray := by
      simp
    rw [e1] at h1
    have h2 := heap_setCells b t fr L (pre ++ [v]) mid suf (w.setCell ⟨b, pre.length, none⟩ v) (by simpa using hl) h1
    rw [List.length_append, List.length_singleton] at h2
    rw [World.setCells, h2]
    simp
theorem heap_setCells_far (b : Nat) : ∀ (L : List Value) (o : Nat) (w : World) (k : Nat), k ≠ b → (w.setCells b o L).heap[k]? = w.heap[k]?
  | [], o, w, k, h => rfl
  | v :: L, o, w, k, h => by
    rw [World.setCells, heap_setCells_far b L (o + 1) _ k h, Below.heap_setCell w ⟨b, o, none⟩ v k h]
theorem size_setCells (b : Nat) : ∀ (L : List Value) (o : Nat) (w : World), (w.setCells b o L).heap.size = w.heap.size
  | [], o, w => rfl
  | v :: L, o, w => by rw [World.setCells, size_setCells b L]; simp
theorem setCells_rest (b : Nat) : ∀ (L : List Value) (o : Nat) (w : World), (w.setCells b o L).os = w.os ∧ (w.setCells b o L).tape = w.tape ∧ (w.setCells b o L).output = w.output
  | [], o, w => ⟨rfl, rfl, rfl⟩
  | v :: L, o, w => by rw [World.setCells]; exact setCells_rest b L (o + 1) _

/-- A whole row is stored into a block that was just made: it is as if it had been made so. -/
theorem setCells_new (w : World) (t : TypeId) : ∀ (L pre suf : List Value), suf.length = L.length → (w.alloc (.cells (pre ++ suf).toArray t)).setCells w.heap.size pre.length L = w.alloc (.cells (pre ++ L).toArray t)
  | [], pre, suf, h => by
    have e : suf = [] := List.eq_nil_of_length_eq_zero h
    subst e
    rfl
  | v :: L, pre, [], h => by simp at h
  | v :: L, pre, s :: suf, h => by
    have h2 := setCells_new w t L (pre ++ [v]) suf (by simpa using h)
    rw [List.length_append, List.length_singleton] at h2
    rw [World.setCells, World.setCell_alloc_new]
    have e1 : ((pre ++ s :: suf).toArray).setIfInBounds pre.length v = ((pre ++ [v]) ++ suf).toArray := by simp
    rw [e1, h2]
    simp
theorem setRow_new (w : World) (t : TypeId) (C C' : Array Value) : (w.alloc (.cells C t)).setRow w.heap.size C' = w.alloc (.cells C' t) := by
  unfold World.setRow World.alloc
  congr 1
  apply Array.ext_getElem?
  intro k
  rw [Array.getElem?_modify, Array.getElem?_push, Array.getElem?_push]
  by_cases h : w.heap.size = k
  · subst h; simp
  · simp [h, Ne.symm h]

/-- Forty bytes: noughts behind what there is. -/
def padD (s : ByteArray) : List UInt8 := s.data.toList ++ List.replicate (40 - s.size) 0
theorem padD_length (s : ByteArray) (h : s.size ≤ 40) : (padD s).length = 40 := by
  have e : s.data.toList.length = s.size := by simp
  simp [padD]; omega

theorem bytesV_pad (s : ByteArray) : bytesV (padD s) = (s.data.map fun b => Value.int .u8 (b.toNat : Int)).toList ++ List.replicate (40 - s.size) (.int .u8 0) := by
  simp [padD, bytesV]

/-- A text is copied into a write that has no bytes. -/
theorem run_copy_text (i b : Int) (s : ByteArray) (hs : s.size ≤ 40) (w : World) (ty : TypeId) :
    (Builtin.copy_ #[130, 9] ty #[.slice (some ⟨w.heap.size, 2, none⟩) 40 40, .string s]).run Try.prog (w.alloc (.cells (zeroW i b) 129)) = .ok (goInt s.size) (w.alloc (.cells (.int .i64 i :: .int .i64 b :: bytesV (padD s)).toArray 129)) := by
  have hu : Try.prog.underlying 130 = some (.slice 5) := by kernel_rfl
  have hsz : (Try.prog.info? 5).map (·.size) = some 1 := by kernel_rfl
  have hg : (w.alloc (.cells (zeroW i b) 129)).heap[w.heap.size]? = some (.cells (zeroW i b) 129 (0, 0)) := by
    show (w.heap.push _)[w.heap.size]? = _
    simp
  have hex : s.extract 0 s.size = s := by simp
  have hst := run_storeCells_at Try.prog w.heap.size 2 129 (s.data.map fun b => Value.int .u8 (b.toNat : Int)).toList 0 (zeroW i b) _ hg (by rw [zeroW_size]; simp; omega) (by
    intro v hv
    simp at hv
    obtain ⟨c, _, rfl⟩ := hv
    rfl)
  have hmin : Nat.min s.size 40 = s.size := Nat.min_eq_left hs
  have erow : ((zeroW i b).toList.take (2 + 0) ++ (s.data.map fun b => Value.int .u8 (b.toNat : Int)).toList ++ (zeroW i b).toList.drop (2 + 0 + (s.data.map fun b => Value.int .u8 (b.toNat : Int)).toList.length)).toArray = (.int .i64 i :: .int .i64 b :: bytesV (padD s)).toArray := by
    rw [bytesV_pad]
    have hz : (zeroW i b).toList = .int .i64 i :: .int .i64 b :: List.replicate 40 (.int .u8 0) := by unfold zeroW; rw [List.toList_toArray]
    have hlen : (s.data.map fun b => Value.int .u8 (b.toNat : Int)).toList.length = s.size := by simp
    rw [hz, hlen]
    generalize hR : List.replicate 40 (Value.int .u8 0) = R
    have hd : List.drop (2 + 0 + s.size) (.int .i64 i :: .int .i64 b :: R) = List.drop s.size R := by
      rw [Nat.add_zero, Nat.add_comm]; rfl
    rw [hd, ← hR, List.drop_replicate]
    generalize List.replicate 40 (Value.int .u8 0) = R'
    rfl
  cases hq : Try.prog.info? 5 with
  | none => simp [hq] at hsz
  | some k =>
    have hk : k.size = 1 := by simpa [hq] using hsz
    rw [erow, setRow_new] at hst
    simp [Builtin.copy_, run_underlying hu, Builtin.lenOf, Builtin.firstCells, sizeOf, typeInfo, hq, hk, hmin, hex]
    have e2 : List.take s.size (List.map (fun b => Value.int .u8 (b.toNat : Int)) s.data.toList) = (s.data.map fun b => Value.int .u8 (b.toNat : Int)).toList := by
      rw [List.take_of_length_le (by simp), Array.toList_map]
    rw [e2, hst]
    rfl

theorem wpList_copy_text {w : World} {ops : Array Oper} {rest : List Oper} {o : Oper} {a : Act} {Q : Exit → Act → World → Prop} (hgd : o.guard = none) (x y : Operand)
    (ho : o.op = .call { callee := .builtin .copy, args := #[x, y], argTypes := #[130, 9] }) (i b : Int) (s : ByteArray) (hs : s.size ≤ 40)
    (hx : a.eval x = .slice (some ⟨w.heap.size, 2, none⟩) 40 40) (hy : a.eval y = .string s)
    (hK : wpList Try.prog ops Q rest (a.put o.dst (goInt s.size)) (w.alloc (.cells (.int .i64 i :: .int .i64 b :: bytesV (padD s)).toArray 129))) : wpList Try.prog ops Q (o :: rest) a (w.alloc (.cells (zeroW i b) 129)) := by
  refine wpList_plain hgd fun K hKK => ?_
  have hrun := run_copy_text i b s hs w o.type
  unfold Oper.wp
  simp [execOp, ho, resolve, invoke, builtin, hx, hy, hrun, Result.andThen]
  exact hKK _ _ hK

theorem there_new (w : World) (C : Array Value) (t : TypeId) (n : Nat) (h : C.size = n) : (w.alloc (.cells C t)).there w.heap.size 0 n := by
  intro j hj
  have hb : (w.alloc (.cells C t)).heap[w.heap.size]? = some (.cells C t (0, 0)) := by
    show (w.heap.push _)[w.heap.size]? = _
    simp
  rw [cell_block hb, frozen_block hb]
  simp
  omega
theorem setCells_whole (w : World) (t : TypeId) (C : Array Value) (L : List Value) (h : C.size = L.length) : (w.alloc (.cells C t)).setCells w.heap.size 0 L = w.alloc (.cells L.toArray t) := by
  have := setCells_new w t L [] C.toList (by simpa using h)
  simpa using this
theorem wpList_store_write {w : World} {ops : Array Oper} {rest : List Oper} {o : Oper} {a : Act} {Q : Exit → Act → World → Prop} (hgd : o.guard = none) (x y : Operand) (ho : o.op = .store 129 x y) (i b : Int)
    (hx : a.eval x = .pointer (some ⟨w.heap.size, 0, none⟩)) (hy : a.eval y = .agg (zeroW i b))
    (h : wpList Try.prog ops Q rest (a.put o.dst undef) (w.alloc (.cells (zeroW i b) 129))) : wpList Try.prog ops Q (o :: rest) a (w.alloc (.cells (zeroW 0 0) 129)) := by
  refine wpList_store_mid hgd 129 x y ho w.heap.size 0 (zeroW i b) hx hy (by rw [zeroW_size]; exact there_new w _ _ 42 (zeroW_size 0 0)) (by rw [zeroW_size]; exact Try.sizeWrite) (zeroW_one i b) ?_
  rw [setCells_whole w _ _ _ (by rw [zeroW_size, Array.length_toList, zeroW_size])]
  exact h

theorem fold_row : ∀ (L pre suf : List Value), suf.length = L.length → (L.zipIdx pre.length).foldl (fun cs (p : Value × Nat) => cs.setIfInBounds (0 + p.2) p.1) (pre ++ suf).toArray = (pre ++ L).toArray
  | [], pre, suf, h => by
    have e : suf = [] := List.eq_nil_of_length_eq_zero h
    subst e
    rfl
  | v :: L, pre, [], h => by simp at h
  | v :: L, pre, s :: suf, h => by
    have h2 := fold_row L (pre ++ [v]) suf (by simpa using h)
    rw [List.length_append, List.length_singleton] at h2
    rw [List.zipIdx_cons, List.foldl_cons]
    have e1 : ((pre ++ s :: suf).toArray).setIfInBounds (0 + pre.length) v = ((pre ++ [v]) ++ suf).toArray := by simp
    rw [e1, h2]
    simp
theorem fill_row (Z C : Array Value) (h : Z.size = C.size) : C.zipIdx.foldl (fun cs (x : Value × Nat) => match x with | (c, j) => cs.setIfInBounds (0 + j) c) Z = C := by
  rw [← Array.foldl_toList, Array.toList_zipIdx]
  have := fold_row C.toList [] Z.toList (by simpa using h)
  simpa using this

theorem run_buildSlice_write (C : Array Value) (hC : C.size = 42) (w : World) : (Instr.buildSlice 121 1 #[(0, .agg C)]).run Try.prog w = .ok (.slice (some ⟨w.heap.size, 0, none⟩) 1 1) (w.alloc (.cells C 129)) := by
  have hu : Try.prog.underlying 121 = some (.slice 129) := by kernel_rfl
  have hz := Try.zeroWrite
  have hsz := Try.sizeWrite
  cases hq : Try.prog.info? 129 with
  | none => simp [hq] at hz
  | some k =>
    have hz' : k.zero = some (.agg (zeroW 0 0)) := by simpa [hq] using hz
    have hk : k.size = 42 := by simpa [hq] using hsz
    generalize hZ : (Array.range 42).map (fun x => (zeroW 0 0)[x % (zeroW 0 0).size]!) = Z
    have hZs : Z.size = 42 := by rw [← hZ]; simp
    have hfill : Instr.fill (fun i => some (i * 42, 42)) Z [(0, .agg C)] = some C := by
      unfold Instr.fill
      have hc : (Value.agg C).cells = C := rfl
      simp only [hc, Nat.zero_mul, Nat.zero_add]
      rw [if_neg (by simp [hC, hZs])]
      unfold Instr.fill
      have := fill_row Z C (by omega)
      simp only [Nat.zero_add] at this
      rw [this]
    simp [Instr.buildSlice, run_underlying hu, sizeOf, typeInfo, hq, hk, zeroValue, hz', Value.cells, Sem.run_bind]
    rw [hZ, hfill]
    simp [newRow, go_sem]

theorem wp_buildSlice_write {w : World} {o : Oper} {a : Act} {K : Act → World → Prop} {Q : Exit → Act → World → Prop} (x : Operand) (ho : o.op = .buildSlice 121 1 #[(0, x)]) (C : Array Value) (hC : C.size = 42) (hx : a.eval x = .agg C)
    (h : K (a.put o.dst (.slice (some ⟨w.heap.size, 0, none⟩) 1 1)) (w.alloc (.cells C 129))) : o.wp Try.prog a w K Q := by
  have hrun := run_buildSlice_write C hC w
  unfold Oper.wp execOp
  simp [ho, hx, Sem.run_bind, hrun, Result.andThen]
  exact h

end Go.Proofs.Ytihnghnafpgdfab
