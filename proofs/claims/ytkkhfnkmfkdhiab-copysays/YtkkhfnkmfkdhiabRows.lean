/-
  NARROWER THAN 'FOR EVERY INPUT', by the rows' own cells (each row's printed sentence says how): TreeBytes: loops · TopTree: loops · MergeSays: loops · TopMerge: loops · CopySays: loops · QuotaSays: loops.
  DERIVED. THE GIVEN ROWS OF THIS SEAT. 7 by the template 'for every input the law returns true; each argument reads behind the call as it read before'; 0 by the template 'total and deterministic' (their statements: YtkkhfnkmfkdhiabTotals.lean).
  GIVEN WITH THE SEED: the statements are not yours to turn. If you find one false, say at which input.
  Laid BY PROGRAM, IN A SANDBOX (cutbox-rows.mjs): the forced cells as the released guide's own fill.sh prints them over the translation 3eca5eed0e9ea05b… (all of the seat's roots in one cut). By AI agents, Wed Nov 11 2026. No macro, syntax, notation, axiom, sorry.
-/
import Derived.Test.YtkkhfnkmfkdhiabChecked
import GoSem.Claim
import GoSem.ClaimJoined
import GoSem.ClaimMapViews
import Derived.JoinedTies
import Derived.KernelRfl
namespace Go.Proofs.Ytkkhfnkmfkdhiab
/- THE CELL 'sum', in the pinned program and in every row, IS THE sha256 OF THE DUMP (.gsa) THAT YtkkhfnkmfkdhiabProg.lean LOADS. Nothing in Lean hashes anything: it is a label: what it is worth is what the hold of that sum in a sandbox is worth. -/
noncomputable def Try.pinned : Pinned := { name := "ytkkhfnkmfkdhiab", sum := "3eca5eed0e9ea05b76ce8abfda77bfca1d0417d772832a8a7e87c8a15afaa6a7", checked := Try.checked }
namespace Rows
def none {H : Type} : Left H := { results := [], args := [] }

/-- 'idshiftlaw.TreeBytes': WHATEVER THE INPUT: true; the input reads as it did. -/
def treeBytesSpec : ChangeSpec := { name := "treeBytes", fn := fun _ => fun
  | [d] => { results := [.lit (.bool true)], args := [d] }
  | _ => none }
def treeBytesRow : OpenClaim := { program := "ytkkhfnkmfkdhiab", sum := "3eca5eed0e9ea05b76ce8abfda77bfca1d0417d772832a8a7e87c8a15afaa6a7", func := "idshift/idshiftlaw.TreeBytes", spec := "treeBytes", inPlace := ["internal/bytealg.IndexByteString", "internal/bytealg.IndexString"], unfollowed := true, recurses := true, named := ["internal/bytealg.MaxLen"], loops := true, apart := false }
def TreeBytesSaid : Prop := treeBytesRow.holds Try.pinned (OpenSpec.ofChange treeBytesSpec)

/-- ITS FALSE NEIGHBOUR: 'it returns false'. Refute it at one input. -/
def treeBytesWrong : ChangeSpec := { name := "treeBytes", fn := fun _ => fun
  | [d] => { results := [.lit (.bool false)], args := [d] }
  | _ => none }
def TreeBytesWrongFalsely : Prop := treeBytesRow.holds Try.pinned (OpenSpec.ofChange treeBytesWrong)

/-- 'idshiftlaw.TreeReads': WHATEVER THE INPUT: true; the input reads as it did. -/
def treeReadsSpec : ChangeSpec := { name := "treeReads", fn := fun _ => fun
  | [d1, d2] => { results := [.lit (.bool true)], args := [d1, d2] }
  | _ => none }
def treeReadsRow : OpenClaim := { program := "ytkkhfnkmfkdhiab", sum := "3eca5eed0e9ea05b76ce8abfda77bfca1d0417d772832a8a7e87c8a15afaa6a7", func := "idshift/idshiftlaw.TreeReads", spec := "treeReads", inPlace := ["internal/bytealg.IndexByteString", "internal/bytealg.IndexString"], unfollowed := true, recurses := true, named := ["internal/bytealg.MaxLen"], apart := false }
def TreeReadsSaid : Prop := treeReadsRow.holds Try.pinned (OpenSpec.ofChange treeReadsSpec)

/-- ITS FALSE NEIGHBOUR: 'it returns false'. Refute it at one input. -/
def treeReadsWrong : ChangeSpec := { name := "treeReads", fn := fun _ => fun
  | [d1, d2] => { results := [.lit (.bool false)], args := [d1, d2] }
  | _ => none }
def TreeReadsWrongFalsely : Prop := treeReadsRow.holds Try.pinned (OpenSpec.ofChange treeReadsWrong)

/-- 'idshifttop.TopTree': WHATEVER THE INPUT: true; the input reads as it did. -/
def topTreeSpec : ChangeSpec := { name := "topTree", fn := fun _ => fun
  | [d1, d2, d3, d4] => { results := [.lit (.bool true)], args := [d1, d2, d3, d4] }
  | _ => none }
def topTreeRow : OpenClaim := { program := "ytkkhfnkmfkdhiab", sum := "3eca5eed0e9ea05b76ce8abfda77bfca1d0417d772832a8a7e87c8a15afaa6a7", func := "idshift/idshifttop.TopTree", spec := "topTree", inPlace := ["internal/bytealg.IndexByteString", "internal/bytealg.IndexString"], unfollowed := true, recurses := true, named := ["internal/bytealg.MaxLen"], loops := true, apart := false }
def TopTreeSaid : Prop := topTreeRow.holds Try.pinned (OpenSpec.ofChange topTreeSpec)

/-- ITS FALSE NEIGHBOUR: 'it returns false'. Refute it at one input. -/
def topTreeWrong : ChangeSpec := { name := "topTree", fn := fun _ => fun
  | [d1, d2, d3, d4] => { results := [.lit (.bool false)], args := [d1, d2, d3, d4] }
  | _ => none }
def TopTreeWrongFalsely : Prop := topTreeRow.holds Try.pinned (OpenSpec.ofChange topTreeWrong)

/-- 'idshiftlaw.MergeSays': WHATEVER THE INPUT: true; the input reads as it did. -/
def mergeSaysSpec : ChangeSpec := { name := "mergeSays", fn := fun _ => fun
  | [d1, d2] => { results := [.lit (.bool true)], args := [d1, d2] }
  | _ => none }
def mergeSaysRow : OpenClaim := { program := "ytkkhfnkmfkdhiab", sum := "3eca5eed0e9ea05b76ce8abfda77bfca1d0417d772832a8a7e87c8a15afaa6a7", func := "idshift/idshiftlaw.MergeSays", spec := "mergeSays", unfollowed := true, recurses := true, loops := true, apart := false }
def MergeSaysSaid : Prop := mergeSaysRow.holds Try.pinned (OpenSpec.ofChange mergeSaysSpec)

/-- ITS FALSE NEIGHBOUR: 'it returns false'. Refute it at one input. -/
def mergeSaysWrong : ChangeSpec := { name := "mergeSays", fn := fun _ => fun
  | [d1, d2] => { results := [.lit (.bool false)], args := [d1, d2] }
  | _ => none }
def MergeSaysWrongFalsely : Prop := mergeSaysRow.holds Try.pinned (OpenSpec.ofChange mergeSaysWrong)

/-- 'idshifttop.TopMerge': WHATEVER THE INPUT: true; the input reads as it did. -/
def topMergeSpec : ChangeSpec := { name := "topMerge", fn := fun _ => fun
  | [d1, d2] => { results := [.lit (.bool true)], args := [d1, d2] }
  | _ => none }
def topMergeRow : OpenClaim := { program := "ytkkhfnkmfkdhiab", sum := "3eca5eed0e9ea05b76ce8abfda77bfca1d0417d772832a8a7e87c8a15afaa6a7", func := "idshift/idshifttop.TopMerge", spec := "topMerge", unfollowed := true, recurses := true, loops := true, apart := false }
def TopMergeSaid : Prop := topMergeRow.holds Try.pinned (OpenSpec.ofChange topMergeSpec)

/-- ITS FALSE NEIGHBOUR: 'it returns false'. Refute it at one input. -/
def topMergeWrong : ChangeSpec := { name := "topMerge", fn := fun _ => fun
  | [d1, d2] => { results := [.lit (.bool false)], args := [d1, d2] }
  | _ => none }
def TopMergeWrongFalsely : Prop := topMergeRow.holds Try.pinned (OpenSpec.ofChange topMergeWrong)

/-- 'idshiftlaw.CopySays': WHATEVER THE INPUT: true; the input reads as it did. -/
def copySaysSpec : ChangeSpec := { name := "copySays", fn := fun _ => fun
  | [d1, d2, d3, d4] => { results := [.lit (.bool true)], args := [d1, d2, d3, d4] }
  | _ => none }
def copySaysRow : OpenClaim := { program := "ytkkhfnkmfkdhiab", sum := "3eca5eed0e9ea05b76ce8abfda77bfca1d0417d772832a8a7e87c8a15afaa6a7", func := "idshift/idshiftlaw.CopySays", spec := "copySays", unfollowed := true, recurses := true, loops := true, apart := false }
def CopySaysSaid : Prop := copySaysRow.holds Try.pinned (OpenSpec.ofChange copySaysSpec)

/-- ITS FALSE NEIGHBOUR: 'it returns false'. Refute it at one input. -/
def copySaysWrong : ChangeSpec := { name := "copySays", fn := fun _ => fun
  | [d1, d2, d3, d4] => { results := [.lit (.bool false)], args := [d1, d2, d3, d4] }
  | _ => none }
def CopySaysWrongFalsely : Prop := copySaysRow.holds Try.pinned (OpenSpec.ofChange copySaysWrong)

/-- 'idshiftlaw.QuotaSays': WHATEVER THE INPUT: true; the input reads as it did. -/
def quotaSaysSpec : ChangeSpec := { name := "quotaSays", fn := fun _ => fun
  | [d1, d2, d3] => { results := [.lit (.bool true)], args := [d1, d2, d3] }
  | _ => none }
def quotaSaysRow : OpenClaim := { program := "ytkkhfnkmfkdhiab", sum := "3eca5eed0e9ea05b76ce8abfda77bfca1d0417d772832a8a7e87c8a15afaa6a7", func := "idshift/idshiftlaw.QuotaSays", spec := "quotaSays", inPlace := ["internal/bytealg.IndexByteString", "internal/bytealg.IndexString"], recurses := true, named := ["internal/bytealg.MaxLen"], loops := true, apart := false }
def QuotaSaysSaid : Prop := quotaSaysRow.holds Try.pinned (OpenSpec.ofChange quotaSaysSpec)

/-- ITS FALSE NEIGHBOUR: 'it returns false'. Refute it at one input. -/
def quotaSaysWrong : ChangeSpec := { name := "quotaSays", fn := fun _ => fun
  | [d1, d2, d3] => { results := [.lit (.bool false)], args := [d1, d2, d3] }
  | _ => none }
def QuotaSaysWrongFalsely : Prop := quotaSaysRow.holds Try.pinned (OpenSpec.ofChange quotaSaysWrong)

/- THE SECOND FORM. 'bulk': how many values and letters a reading holds, each counted each time it is reached (what is shared counts as often as it is met; a slice's spare places count too). A statement '..UptoSaid' is the law's where the arguments, and the package variables that the reading takes, are together of bulk at most 1048576: NARROWER than '..Said'. Prove '..Said' where nothing that the law and all that it calls make is longer than what came in: it says more and counts as full. Else prove '..UptoSaid'. A law counts once. -/
mutual
def uptoBulk {H : Type} : DataW H → Nat
  | .lit (.string bytes) => bytes.length + 1
  | .lit _ => 1
  | .nil => 1
  | .ptr d => uptoBulk d + 1
  | .slice elems spare => uptoBulkAll elems + uptoBulkAll spare + 1
  | .agg parts => uptoBulkAll parts + 1
  | .iface _ d => uptoBulk d + 1
  | .map entries => uptoBulkEntries entries + 1
  | .held _ => 1
def uptoBulkAll {H : Type} : List (DataW H) → Nat
  | [] => 0
  | d :: r => uptoBulk d + uptoBulkAll r
def uptoBulkEntries {H : Type} : List (Lit × DataW H) → Nat
  | [] => 0
  | x :: r => uptoBulkEntry x + uptoBulkEntries r
def uptoBulkEntry {H : Type} : Lit × DataW H → Nat
  | (.string bytes, d) => bytes.length + uptoBulk d + 1
  | (_, d) => uptoBulk d + 1
 end
def uptoSmall : (H : Type) → List (DataW H) → Bool := fun _ ds => decide (uptoBulkAll ds ≤ 1048576)
def OpenSpec.upto (s : _root_.Go.ChangeSpec) : _root_.Go.OpenSpec := { _root_.Go.OpenSpec.ofChange s with cond := some uptoSmall }

/-- 'idshiftlaw.TreeBytes', WHERE WHAT IT READS IS OF BULK AT MOST 1048576: true; the input reads as it did. -/
def treeBytesUptoRow : OpenClaim := { program := "ytkkhfnkmfkdhiab", sum := "3eca5eed0e9ea05b76ce8abfda77bfca1d0417d772832a8a7e87c8a15afaa6a7", func := "idshift/idshiftlaw.TreeBytes", spec := "treeBytes", inPlace := ["internal/bytealg.IndexByteString", "internal/bytealg.IndexString"], unfollowed := true, recurses := true, named := ["internal/bytealg.MaxLen"], loops := true, apart := false, narrowed := true }
def TreeBytesUptoSaid : Prop := treeBytesUptoRow.holds Try.pinned (OpenSpec.upto treeBytesSpec)

/-- 'idshiftlaw.TreeReads', WHERE WHAT IT READS IS OF BULK AT MOST 1048576: true; the input reads as it did. -/
def treeReadsUptoRow : OpenClaim := { program := "ytkkhfnkmfkdhiab", sum := "3eca5eed0e9ea05b76ce8abfda77bfca1d0417d772832a8a7e87c8a15afaa6a7", func := "idshift/idshiftlaw.TreeReads", spec := "treeReads", inPlace := ["internal/bytealg.IndexByteString", "internal/bytealg.IndexString"], unfollowed := true, recurses := true, named := ["internal/bytealg.MaxLen"], apart := false, narrowed := true }
def TreeReadsUptoSaid : Prop := treeReadsUptoRow.holds Try.pinned (OpenSpec.upto treeReadsSpec)

/-- 'idshifttop.TopTree', WHERE WHAT IT READS IS OF BULK AT MOST 1048576: true; the input reads as it did. -/
def topTreeUptoRow : OpenClaim := { program := "ytkkhfnkmfkdhiab", sum := "3eca5eed0e9ea05b76ce8abfda77bfca1d0417d772832a8a7e87c8a15afaa6a7", func := "idshift/idshifttop.TopTree", spec := "topTree", inPlace := ["internal/bytealg.IndexByteString", "internal/bytealg.IndexString"], unfollowed := true, recurses := true, named := ["internal/bytealg.MaxLen"], loops := true, apart := false, narrowed := true }
def TopTreeUptoSaid : Prop := topTreeUptoRow.holds Try.pinned (OpenSpec.upto topTreeSpec)

/-- 'idshiftlaw.MergeSays', WHERE WHAT IT READS IS OF BULK AT MOST 1048576: true; the input reads as it did. -/
def mergeSaysUptoRow : OpenClaim := { program := "ytkkhfnkmfkdhiab", sum := "3eca5eed0e9ea05b76ce8abfda77bfca1d0417d772832a8a7e87c8a15afaa6a7", func := "idshift/idshiftlaw.MergeSays", spec := "mergeSays", unfollowed := true, recurses := true, loops := true, apart := false, narrowed := true }
def MergeSaysUptoSaid : Prop := mergeSaysUptoRow.holds Try.pinned (OpenSpec.upto mergeSaysSpec)

/-- 'idshifttop.TopMerge', WHERE WHAT IT READS IS OF BULK AT MOST 1048576: true; the input reads as it did. -/
def topMergeUptoRow : OpenClaim := { program := "ytkkhfnkmfkdhiab", sum := "3eca5eed0e9ea05b76ce8abfda77bfca1d0417d772832a8a7e87c8a15afaa6a7", func := "idshift/idshifttop.TopMerge", spec := "topMerge", unfollowed := true, recurses := true, loops := true, apart := false, narrowed := true }
def TopMergeUptoSaid : Prop := topMergeUptoRow.holds Try.pinned (OpenSpec.upto topMergeSpec)

/-- 'idshiftlaw.CopySays', WHERE WHAT IT READS IS OF BULK AT MOST 1048576: true; the input reads as it did. -/
def copySaysUptoRow : OpenClaim := { program := "ytkkhfnkmfkdhiab", sum := "3eca5eed0e9ea05b76ce8abfda77bfca1d0417d772832a8a7e87c8a15afaa6a7", func := "idshift/idshiftlaw.CopySays", spec := "copySays", unfollowed := true, recurses := true, loops := true, apart := false, narrowed := true }
def CopySaysUptoSaid : Prop := copySaysUptoRow.holds Try.pinned (OpenSpec.upto copySaysSpec)

/-- 'idshiftlaw.QuotaSays', WHERE WHAT IT READS IS OF BULK AT MOST 1048576: true; the input reads as it did. -/
def quotaSaysUptoRow : OpenClaim := { program := "ytkkhfnkmfkdhiab", sum := "3eca5eed0e9ea05b76ce8abfda77bfca1d0417d772832a8a7e87c8a15afaa6a7", func := "idshift/idshiftlaw.QuotaSays", spec := "quotaSays", inPlace := ["internal/bytealg.IndexByteString", "internal/bytealg.IndexString"], recurses := true, named := ["internal/bytealg.MaxLen"], loops := true, apart := false, narrowed := true }
def QuotaSaysUptoSaid : Prop := quotaSaysUptoRow.holds Try.pinned (OpenSpec.upto quotaSaysSpec)

end Rows
end Go.Proofs.Ytkkhfnkmfkdhiab
