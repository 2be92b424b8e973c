/-
  COPIES THAT CAME IN, OPENED: one, and an array of three.
-/
import Derived.Test.YtihnghnafpgdfacVoteBase
import Derived.Test.YtihnghnafpgdfacOpenQuilt
import Derived.OpenShut
namespace Go.Proofs.Ytihnghnafpgdfac
open Go.RowKit Go.Deep Go.ChangeShapes Go.WideShapes Go.Joins
set_option linter.unusedVariables false
set_option linter.unusedSimpArgs false

section
variable {H : Type} {enc : TypeId × Value → H} {w : World} {base : Nat} {spare : Nat → Bool} {held : Bool}

/-- A copy whose files may be as many as memory has. -/
structure CoIn (w : World) (c : Co) : Prop where
  slice : Slice w c.a c.cap c.l
  sized : Sized c.l
theorem cellsCopy : Try.prog.cellsOf 48 = 3 := by kernel_rfl
theorem cellsThree : Try.prog.cellsOf 49 = 9 := by kernel_rfl
theorem cellsBool : Try.prog.cellsOf 4 = 1 := by kernel_rfl
theorem cellsFiles : Try.prog.cellsOf 44 = 1 := by kernel_rfl
theorem list9 : ∀ {cs : List Value}, cs.length = 9 → ∃ a b c d e f g h i, cs = [a, b, c, d, e, f, g, h, i]
  | [a, b, c, d, e, f, g, h, i], _ => ⟨a, b, c, d, e, f, g, h, i, rfl⟩

set_option maxRecDepth 100000 in
theorem open_copy {fuel : Nat} {cs : List Value} {x : DataW H × List MemPlace} (h : DataW.trod enc Try.prog w base spare held fuel 48 cs = some x) :
    ∃ c : Co, cs = [.bool c.is, .slice c.a c.l.length c.cap, .int .i64 c.t] ∧ CoIn w c := by
  obtain ⟨y0, y1, n, _, hl, h0, h1⟩ := trod_struct2 Try.underlying48 h
  rw [cellsCopy] at hl
  obtain ⟨c0, c1, c2, rfl⟩ := list3 hl
  obtain ⟨s, e0, _⟩ := DataW.trod_bool Try.underlying4 h0
  obtain ⟨z0, z1, n2, _, hl2, k0, k1⟩ := trod_struct2 Try.underlying46 h1
  obtain ⟨a, cap, l, e1, hs, hz⟩ := open_files k0
  obtain ⟨t, e2, _, _⟩ := DataW.trod_int Try.underlying3 k1
  simp [cellsBool, cellsQuilt, cellsFiles, cellsInt] at e0 e1 e2
  subst e0 e1 e2
  exact ⟨⟨s, a, cap, l, t⟩, rfl, ⟨hs, hz⟩⟩

set_option maxRecDepth 100000 in
theorem open_three {fuel : Nat} {cs : List Value} {x : DataW H × List MemPlace} (h : DataW.trod enc Try.prog w base spare held fuel 49 cs = some x) :
    ∃ a b c : Co, cs = [.bool a.is, .slice a.a a.l.length a.cap, .int .i64 a.t, .bool b.is, .slice b.a b.l.length b.cap, .int .i64 b.t, .bool c.is, .slice c.a c.l.length c.cap, .int .i64 c.t] ∧ CoIn w a ∧ CoIn w b ∧ CoIn w c := by
  obtain ⟨xs, m, _, _, hl, hlen, hf⟩ := DataW.trod_array Try.underlying49 h
  rw [cellsThree] at hl
  obtain ⟨c0, c1, c2, c3, c4, c5, c6, c7, c8, rfl⟩ := list9 hl
  match xs, hlen with
  | [y0, y1, y2], _ =>
    have h0 := hf 0 (by decide)
    have h1 := hf 1 (by decide)
    have h2 := hf 2 (by decide)
    rw [cellsCopy] at h0 h1 h2
    obtain ⟨a, ea, ha⟩ := open_copy (x := y0) (by simpa using h0)
    obtain ⟨b, eb, hb⟩ := open_copy (x := y1) (by simpa using h1)
    obtain ⟨c, ec, hc⟩ := open_copy (x := y2) (by simpa using h2)
    simp at ea eb ec
    obtain ⟨rfl, rfl, rfl⟩ := ea
    obtain ⟨rfl, rfl, rfl⟩ := eb
    obtain ⟨rfl, rfl, rfl⟩ := ec
    exact ⟨a, b, c, rfl, ha, hb, hc⟩

set_option maxRecDepth 100000 in
theorem okWide_arr {r : Reach} {b0 : Nat} {v : Value} (h : Value.okWide Try.prog w r b0 49 v) : ∃ cs, v = .agg cs := by
  unfold Value.okWide at h
  simp only [Try.underlying49] at h
  cases v <;> simp_all
end
end Go.Proofs.Ytihnghnafpgdfac
