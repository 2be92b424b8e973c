/-
  No cell of these rows narrows 'for every input' (looked for: loops, veiled, ifaces, maps, wideKeys, modest, calm, conditions, laid).
  DERIVED. THE GIVEN ROWS OF THIS SEAT. 11 by the template 'for every input the law returns true; each argument reads behind the call as it read before'; 0 by the template 'total and deterministic' (their statements: YtihnghnafpgdfaaTotals.lean).
  GIVEN WITH THE SEED: the statements are not yours to turn. If you find one false, say at which input.
  Laid BY PROGRAM, IN A SANDBOX (cutbox-rows.mjs): the forced cells as the released guide's own fill.sh prints them over the translation 0918a01800347b79… (all of the seat's roots in one cut). By AI agents, Wed Nov 11 2026. No macro, syntax, notation, axiom, sorry.
-/
import Derived.Test.YtihnghnafpgdfaaChecked
import GoSem.Claim
import GoSem.ClaimJoined
import GoSem.ClaimMapViews
import Derived.JoinedTies
import Derived.KernelRfl
namespace Go.Proofs.Ytihnghnafpgdfaa
/- THE CELL 'sum', in the pinned program and in every row, IS THE sha256 OF THE DUMP (.gsa) THAT YtihnghnafpgdfaaProg.lean LOADS. Nothing in Lean hashes anything: it is a label: what it is worth is what the hold of that sum in a sandbox is worth. -/
noncomputable def Try.pinned : Pinned := { name := "ytihnghnafpgdfaa", sum := "0918a01800347b793f7472b3160f5854876b2333945c695fcc3cac025d8e8044", checked := Try.checked }
namespace Rows
def none {H : Type} : Left H := { results := [], args := [] }

/-- 'patchquiltlaw.FileSays': WHATEVER THE INPUT: true; the input reads as it did. -/
def fileSaysSpec : ChangeSpec := { name := "fileSays", fn := fun _ => fun
  | [d1, d2] => { results := [.lit (.bool true)], args := [d1, d2] }
  | _ => none }
def fileSaysRow : OpenClaim := { program := "ytihnghnafpgdfaa", sum := "0918a01800347b793f7472b3160f5854876b2333945c695fcc3cac025d8e8044", func := "patchquilt/patchquiltlaw.FileSays", spec := "fileSays", apart := false }
def FileSaysSaid : Prop := fileSaysRow.holds Try.pinned (OpenSpec.ofChange fileSaysSpec)

/-- ITS FALSE NEIGHBOUR: 'it returns false'. Refute it at one input. -/
def fileSaysWrong : ChangeSpec := { name := "fileSays", fn := fun _ => fun
  | [d1, d2] => { results := [.lit (.bool false)], args := [d1, d2] }
  | _ => none }
def FileSaysWrongFalsely : Prop := fileSaysRow.holds Try.pinned (OpenSpec.ofChange fileSaysWrong)

/-- 'patchquiltlaw.ShelfSays': WHATEVER THE INPUT: true; the input reads as it did. -/
def shelfSaysSpec : ChangeSpec := { name := "shelfSays", fn := fun _ => fun
  | [d1, d2, d3] => { results := [.lit (.bool true)], args := [d1, d2, d3] }
  | _ => none }
def shelfSaysRow : OpenClaim := { program := "ytihnghnafpgdfaa", sum := "0918a01800347b793f7472b3160f5854876b2333945c695fcc3cac025d8e8044", func := "patchquilt/patchquiltlaw.ShelfSays", spec := "shelfSays", unfollowed := true, recurses := true, apart := false }
def ShelfSaysSaid : Prop := shelfSaysRow.holds Try.pinned (OpenSpec.ofChange shelfSaysSpec)

/-- ITS FALSE NEIGHBOUR: 'it returns false'. Refute it at one input. -/
def shelfSaysWrong : ChangeSpec := { name := "shelfSays", fn := fun _ => fun
  | [d1, d2, d3] => { results := [.lit (.bool false)], args := [d1, d2, d3] }
  | _ => none }
def ShelfSaysWrongFalsely : Prop := shelfSaysRow.holds Try.pinned (OpenSpec.ofChange shelfSaysWrong)

/-- 'patchquiltlaw.QuiltSays': WHATEVER THE INPUT: true; the input reads as it did. -/
def quiltSaysSpec : ChangeSpec := { name := "quiltSays", fn := fun _ => fun
  | [d1, d2, d3] => { results := [.lit (.bool true)], args := [d1, d2, d3] }
  | _ => none }
def quiltSaysRow : OpenClaim := { program := "ytihnghnafpgdfaa", sum := "0918a01800347b793f7472b3160f5854876b2333945c695fcc3cac025d8e8044", func := "patchquilt/patchquiltlaw.QuiltSays", spec := "quiltSays", unfollowed := true, recurses := true, apart := false }
def QuiltSaysSaid : Prop := quiltSaysRow.holds Try.pinned (OpenSpec.ofChange quiltSaysSpec)

/-- ITS FALSE NEIGHBOUR: 'it returns false'. Refute it at one input. -/
def quiltSaysWrong : ChangeSpec := { name := "quiltSays", fn := fun _ => fun
  | [d1, d2, d3] => { results := [.lit (.bool false)], args := [d1, d2, d3] }
  | _ => none }
def QuiltSaysWrongFalsely : Prop := quiltSaysRow.holds Try.pinned (OpenSpec.ofChange quiltSaysWrong)

/-- 'patchquiltlaw.DiffSays': WHATEVER THE INPUT: true; the input reads as it did. -/
def diffSaysSpec : ChangeSpec := { name := "diffSays", fn := fun _ => fun
  | [d1, d2, d3] => { results := [.lit (.bool true)], args := [d1, d2, d3] }
  | _ => none }
def diffSaysRow : OpenClaim := { program := "ytihnghnafpgdfaa", sum := "0918a01800347b793f7472b3160f5854876b2333945c695fcc3cac025d8e8044", func := "patchquilt/patchquiltlaw.DiffSays", spec := "diffSays", unfollowed := true, recurses := true, apart := false }
def DiffSaysSaid : Prop := diffSaysRow.holds Try.pinned (OpenSpec.ofChange diffSaysSpec)

/-- ITS FALSE NEIGHBOUR: 'it returns false'. Refute it at one input. -/
def diffSaysWrong : ChangeSpec := { name := "diffSays", fn := fun _ => fun
  | [d1, d2, d3] => { results := [.lit (.bool false)], args := [d1, d2, d3] }
  | _ => none }
def DiffSaysWrongFalsely : Prop := diffSaysRow.holds Try.pinned (OpenSpec.ofChange diffSaysWrong)

/-- 'patchquilttop.TopShelf': WHATEVER THE INPUT: true; the input reads as it did. -/
def topShelfSpec : ChangeSpec := { name := "topShelf", fn := fun _ => fun
  | [d1, d2, d3] => { results := [.lit (.bool true)], args := [d1, d2, d3] }
  | _ => none }
def topShelfRow : OpenClaim := { program := "ytihnghnafpgdfaa", sum := "0918a01800347b793f7472b3160f5854876b2333945c695fcc3cac025d8e8044", func := "patchquilt/patchquilttop.TopShelf", spec := "topShelf", unfollowed := true, recurses := true, apart := false }
def TopShelfSaid : Prop := topShelfRow.holds Try.pinned (OpenSpec.ofChange topShelfSpec)

/-- ITS FALSE NEIGHBOUR: 'it returns false'. Refute it at one input. -/
def topShelfWrong : ChangeSpec := { name := "topShelf", fn := fun _ => fun
  | [d1, d2, d3] => { results := [.lit (.bool false)], args := [d1, d2, d3] }
  | _ => none }
def TopShelfWrongFalsely : Prop := topShelfRow.holds Try.pinned (OpenSpec.ofChange topShelfWrong)

/-- 'patchquilttop.TopGood': WHATEVER THE INPUT: true; the input reads as it did. -/
def topGoodSpec : ChangeSpec := { name := "topGood", fn := fun _ => fun
  | [d] => { results := [.lit (.bool true)], args := [d] }
  | _ => none }
def topGoodRow : OpenClaim := { program := "ytihnghnafpgdfaa", sum := "0918a01800347b793f7472b3160f5854876b2333945c695fcc3cac025d8e8044", func := "patchquilt/patchquilttop.TopGood", spec := "topGood", unfollowed := true, recurses := true, apart := false }
def TopGoodSaid : Prop := topGoodRow.holds Try.pinned (OpenSpec.ofChange topGoodSpec)

/-- ITS FALSE NEIGHBOUR: 'it returns false'. Refute it at one input. -/
def topGoodWrong : ChangeSpec := { name := "topGood", fn := fun _ => fun
  | [d] => { results := [.lit (.bool false)], args := [d] }
  | _ => none }
def TopGoodWrongFalsely : Prop := topGoodRow.holds Try.pinned (OpenSpec.ofChange topGoodWrong)

/-- 'patchquilttop.TopWrite': WHATEVER THE INPUT: true; the input reads as it did. -/
def topWriteSpec : ChangeSpec := { name := "topWrite", fn := fun _ => fun
  | [d1, d2, d3, d4] => { results := [.lit (.bool true)], args := [d1, d2, d3, d4] }
  | _ => none }
def topWriteRow : OpenClaim := { program := "ytihnghnafpgdfaa", sum := "0918a01800347b793f7472b3160f5854876b2333945c695fcc3cac025d8e8044", func := "patchquilt/patchquilttop.TopWrite", spec := "topWrite", unfollowed := true, recurses := true, apart := false }
def TopWriteSaid : Prop := topWriteRow.holds Try.pinned (OpenSpec.ofChange topWriteSpec)

/-- ITS FALSE NEIGHBOUR: 'it returns false'. Refute it at one input. -/
def topWriteWrong : ChangeSpec := { name := "topWrite", fn := fun _ => fun
  | [d1, d2, d3, d4] => { results := [.lit (.bool false)], args := [d1, d2, d3, d4] }
  | _ => none }
def TopWriteWrongFalsely : Prop := topWriteRow.holds Try.pinned (OpenSpec.ofChange topWriteWrong)

/-- 'patchquilttop.TopBack': WHATEVER THE INPUT: true; the input reads as it did. -/
def topBackSpec : ChangeSpec := { name := "topBack", fn := fun _ => fun
  | [d1, d2, d3] => { results := [.lit (.bool true)], args := [d1, d2, d3] }
  | _ => none }
def topBackRow : OpenClaim := { program := "ytihnghnafpgdfaa", sum := "0918a01800347b793f7472b3160f5854876b2333945c695fcc3cac025d8e8044", func := "patchquilt/patchquilttop.TopBack", spec := "topBack", unfollowed := true, recurses := true, apart := false }
def TopBackSaid : Prop := topBackRow.holds Try.pinned (OpenSpec.ofChange topBackSpec)

/-- ITS FALSE NEIGHBOUR: 'it returns false'. Refute it at one input. -/
def topBackWrong : ChangeSpec := { name := "topBack", fn := fun _ => fun
  | [d1, d2, d3] => { results := [.lit (.bool false)], args := [d1, d2, d3] }
  | _ => none }
def TopBackWrongFalsely : Prop := topBackRow.holds Try.pinned (OpenSpec.ofChange topBackWrong)

/-- 'patchquilttop.TopSwap': WHATEVER THE INPUT: true; the input reads as it did. -/
def topSwapSpec : ChangeSpec := { name := "topSwap", fn := fun _ => fun
  | [d1, d2, d3] => { results := [.lit (.bool true)], args := [d1, d2, d3] }
  | _ => none }
def topSwapRow : OpenClaim := { program := "ytihnghnafpgdfaa", sum := "0918a01800347b793f7472b3160f5854876b2333945c695fcc3cac025d8e8044", func := "patchquilt/patchquilttop.TopSwap", spec := "topSwap", unfollowed := true, recurses := true, apart := false }
def TopSwapSaid : Prop := topSwapRow.holds Try.pinned (OpenSpec.ofChange topSwapSpec)

/-- ITS FALSE NEIGHBOUR: 'it returns false'. Refute it at one input. -/
def topSwapWrong : ChangeSpec := { name := "topSwap", fn := fun _ => fun
  | [d1, d2, d3] => { results := [.lit (.bool false)], args := [d1, d2, d3] }
  | _ => none }
def TopSwapWrongFalsely : Prop := topSwapRow.holds Try.pinned (OpenSpec.ofChange topSwapWrong)

/-- 'patchquilttop.TopDropped': WHATEVER THE INPUT: true; the input reads as it did. -/
def topDroppedSpec : ChangeSpec := { name := "topDropped", fn := fun _ => fun
  | [d1, d2] => { results := [.lit (.bool true)], args := [d1, d2] }
  | _ => none }
def topDroppedRow : OpenClaim := { program := "ytihnghnafpgdfaa", sum := "0918a01800347b793f7472b3160f5854876b2333945c695fcc3cac025d8e8044", func := "patchquilt/patchquilttop.TopDropped", spec := "topDropped", unfollowed := true, recurses := true, apart := false }
def TopDroppedSaid : Prop := topDroppedRow.holds Try.pinned (OpenSpec.ofChange topDroppedSpec)

/-- ITS FALSE NEIGHBOUR: 'it returns false'. Refute it at one input. -/
def topDroppedWrong : ChangeSpec := { name := "topDropped", fn := fun _ => fun
  | [d1, d2] => { results := [.lit (.bool false)], args := [d1, d2] }
  | _ => none }
def TopDroppedWrongFalsely : Prop := topDroppedRow.holds Try.pinned (OpenSpec.ofChange topDroppedWrong)

/-- 'patchquilttop.TopFew': WHATEVER THE INPUT: true; the input reads as it did. -/
def topFewSpec : ChangeSpec := { name := "topFew", fn := fun _ => fun
  | [d1, d2, d3] => { results := [.lit (.bool true)], args := [d1, d2, d3] }
  | _ => none }
def topFewRow : OpenClaim := { program := "ytihnghnafpgdfaa", sum := "0918a01800347b793f7472b3160f5854876b2333945c695fcc3cac025d8e8044", func := "patchquilt/patchquilttop.TopFew", spec := "topFew", unfollowed := true, recurses := true, apart := false }
def TopFewSaid : Prop := topFewRow.holds Try.pinned (OpenSpec.ofChange topFewSpec)

/-- ITS FALSE NEIGHBOUR: 'it returns false'. Refute it at one input. -/
def topFewWrong : ChangeSpec := { name := "topFew", fn := fun _ => fun
  | [d1, d2, d3] => { results := [.lit (.bool false)], args := [d1, d2, d3] }
  | _ => none }
def TopFewWrongFalsely : Prop := topFewRow.holds Try.pinned (OpenSpec.ofChange topFewWrong)

/- THE SECOND FORM. 'bulk': how many values and letters a reading holds, each counted each time it is reached (what is shared counts as often as it is met; a slice's spare places count too). A statement '..UptoSaid' is the law's where the arguments, and the package variables that the reading takes, are together of bulk at most 1048576: NARROWER than '..Said'. Prove '..Said' where nothing that the law and all that it calls make is longer than what came in: it says more and counts as full. Else prove '..UptoSaid'. A law counts once. -/
mutual
def uptoBulk {H : Type} : DataW H → Nat
  | .lit (.string bytes) => bytes.length + 1
  | .lit _ => 1
  | .nil => 1
  | .ptr d => uptoBulk d + 1
  | .slice elems spare => uptoBulkAll elems + uptoBulkAll spare + 1
  | .agg parts => uptoBulkAll parts + 1
  | .iface _ d => uptoBulk d + 1
  | .map entries => uptoBulkEntries entries + 1
  | .held _ => 1
def uptoBulkAll {H : Type} : List (DataW H) → Nat
  | [] => 0
  | d :: r => uptoBulk d + uptoBulkAll r
def uptoBulkEntries {H : Type} : List (Lit × DataW H) → Nat
  | [] => 0
  | x :: r => uptoBulkEntry x + uptoBulkEntries r
def uptoBulkEntry {H : Type} : Lit × DataW H → Nat
  | (.string bytes, d) => bytes.length + uptoBulk d + 1
  | (_, d) => uptoBulk d + 1
 end
def uptoSmall : (H : Type) → List (DataW H) → Bool := fun _ ds => decide (uptoBulkAll ds ≤ 1048576)
def OpenSpec.upto (s : _root_.Go.ChangeSpec) : _root_.Go.OpenSpec := { _root_.Go.OpenSpec.ofChange s with cond := some uptoSmall }

/-- 'patchquiltlaw.FileSays', WHERE WHAT IT READS IS OF BULK AT MOST 1048576: true; the input reads as it did. -/
def fileSaysUptoRow : OpenClaim := { program := "ytihnghnafpgdfaa", sum := "0918a01800347b793f7472b3160f5854876b2333945c695fcc3cac025d8e8044", func := "patchquilt/patchquiltlaw.FileSays", spec := "fileSays", apart := false, narrowed := true }
def FileSaysUptoSaid : Prop := fileSaysUptoRow.holds Try.pinned (OpenSpec.upto fileSaysSpec)

/-- 'patchquiltlaw.ShelfSays', WHERE WHAT IT READS IS OF BULK AT MOST 1048576: true; the input reads as it did. -/
def shelfSaysUptoRow : OpenClaim := { program := "ytihnghnafpgdfaa", sum := "0918a01800347b793f7472b3160f5854876b2333945c695fcc3cac025d8e8044", func := "patchquilt/patchquiltlaw.ShelfSays", spec := "shelfSays", unfollowed := true, recurses := true, apart := false, narrowed := true }
def ShelfSaysUptoSaid : Prop := shelfSaysUptoRow.holds Try.pinned (OpenSpec.upto shelfSaysSpec)

/-- 'patchquiltlaw.QuiltSays', WHERE WHAT IT READS IS OF BULK AT MOST 1048576: true; the input reads as it did. -/
def quiltSaysUptoRow : OpenClaim := { program := "ytihnghnafpgdfaa", sum := "0918a01800347b793f7472b3160f5854876b2333945c695fcc3cac025d8e8044", func := "patchquilt/patchquiltlaw.QuiltSays", spec := "quiltSays", unfollowed := true, recurses := true, apart := false, narrowed := true }
def QuiltSaysUptoSaid : Prop := quiltSaysUptoRow.holds Try.pinned (OpenSpec.upto quiltSaysSpec)

/-- 'patchquiltlaw.DiffSays', WHERE WHAT IT READS IS OF BULK AT MOST 1048576: true; the input reads as it did. -/
def diffSaysUptoRow : OpenClaim := { program := "ytihnghnafpgdfaa", sum := "0918a01800347b793f7472b3160f5854876b2333945c695fcc3cac025d8e8044", func := "patchquilt/patchquiltlaw.DiffSays", spec := "diffSays", unfollowed := true, recurses := true, apart := false, narrowed := true }
def DiffSaysUptoSaid : Prop := diffSaysUptoRow.holds Try.pinned (OpenSpec.upto diffSaysSpec)

/-- 'patchquilttop.TopShelf', WHERE WHAT IT READS IS OF BULK AT MOST 1048576: true; the input reads as it did. -/
def topShelfUptoRow : OpenClaim := { program := "ytihnghnafpgdfaa", sum := "0918a01800347b793f7472b3160f5854876b2333945c695fcc3cac025d8e8044", func := "patchquilt/patchquilttop.TopShelf", spec := "topShelf", unfollowed := true, recurses := true, apart := false, narrowed := true }
def TopShelfUptoSaid : Prop := topShelfUptoRow.holds Try.pinned (OpenSpec.upto topShelfSpec)

/-- 'patchquilttop.TopGood', WHERE WHAT IT READS IS OF BULK AT MOST 1048576: true; the input reads as it did. -/
def topGoodUptoRow : OpenClaim := { program := "ytihnghnafpgdfaa", sum := "0918a01800347b793f7472b3160f5854876b2333945c695fcc3cac025d8e8044", func := "patchquilt/patchquilttop.TopGood", spec := "topGood", unfollowed := true, recurses := true, apart := false, narrowed := true }
def TopGoodUptoSaid : Prop := topGoodUptoRow.holds Try.pinned (OpenSpec.upto topGoodSpec)

/-- 'patchquilttop.TopWrite', WHERE WHAT IT READS IS OF BULK AT MOST 1048576: true; the input reads as it did. -/
def topWriteUptoRow : OpenClaim := { program := "ytihnghnafpgdfaa", sum := "0918a01800347b793f7472b3160f5854876b2333945c695fcc3cac025d8e8044", func := "patchquilt/patchquilttop.TopWrite", spec := "topWrite", unfollowed := true, recurses := true, apart := false, narrowed := true }
def TopWriteUptoSaid : Prop := topWriteUptoRow.holds Try.pinned (OpenSpec.upto topWriteSpec)

/-- 'patchquilttop.TopBack', WHERE WHAT IT READS IS OF BULK AT MOST 1048576: true; the input reads as it did. -/
def topBackUptoRow : OpenClaim := { program := "ytihnghnafpgdfaa", sum := "0918a01800347b793f7472b3160f5854876b2333945c695fcc3cac025d8e8044", func := "patchquilt/patchquilttop.TopBack", spec := "topBack", unfollowed := true, recurses := true, apart := false, narrowed := true }
def TopBackUptoSaid : Prop := topBackUptoRow.holds Try.pinned (OpenSpec.upto topBackSpec)

/-- 'patchquilttop.TopSwap', WHERE WHAT IT READS IS OF BULK AT MOST 1048576: true; the input reads as it did. -/
def topSwapUptoRow : OpenClaim := { program := "ytihnghnafpgdfaa", sum := "0918a01800347b793f7472b3160f5854876b2333945c695fcc3cac025d8e8044", func := "patchquilt/patchquilttop.TopSwap", spec := "topSwap", unfollowed := true, recurses := true, apart := false, narrowed := true }
def TopSwapUptoSaid : Prop := topSwapUptoRow.holds Try.pinned (OpenSpec.upto topSwapSpec)

/-- 'patchquilttop.TopDropped', WHERE WHAT IT READS IS OF BULK AT MOST 1048576: true; the input reads as it did. -/
def topDroppedUptoRow : OpenClaim := { program := "ytihnghnafpgdfaa", sum := "0918a01800347b793f7472b3160f5854876b2333945c695fcc3cac025d8e8044", func := "patchquilt/patchquilttop.TopDropped", spec := "topDropped", unfollowed := true, recurses := true, apart := false, narrowed := true }
def TopDroppedUptoSaid : Prop := topDroppedUptoRow.holds Try.pinned (OpenSpec.upto topDroppedSpec)

/-- 'patchquilttop.TopFew', WHERE WHAT IT READS IS OF BULK AT MOST 1048576: true; the input reads as it did. -/
def topFewUptoRow : OpenClaim := { program := "ytihnghnafpgdfaa", sum := "0918a01800347b793f7472b3160f5854876b2333945c695fcc3cac025d8e8044", func := "patchquilt/patchquilttop.TopFew", spec := "topFew", unfollowed := true, recurses := true, apart := false, narrowed := true }
def TopFewUptoSaid : Prop := topFewUptoRow.holds Try.pinned (OpenSpec.upto topFewSpec)

end Rows
end Go.Proofs.Ytihnghnafpgdfaa
