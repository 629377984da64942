/-
  NARROWER THAN 'FOR EVERY INPUT', by the rows' own cells (each row's printed sentence says how): TreeSays: loops.
  DERIVED. THE GIVEN ROWS OF THIS SEAT. 9 by the template 'for every input the law returns true; each argument reads behind the call as it read before'; 0 by the template 'total and deterministic' (their statements: YtiilppebcpkclaaTotals.lean).
  GIVEN WITH THE SEED: the statements are not yours to turn. If you find one false, say at which input.
  Laid BY PROGRAM, IN A SANDBOX (cutbox-rows.mjs): the forced cells as the released guide's own fill.sh prints them over the translation 49f828e1fd4fcf30… (all of the seat's roots in one cut). By AI agents, Wed Nov 11 2026. No macro, syntax, notation, axiom, sorry.
-/
import Derived.Test.YtiilppebcpkclaaChecked
import GoSem.Claim
import GoSem.ClaimJoined
import GoSem.ClaimMapViews
import Derived.JoinedTies
import Derived.KernelRfl
namespace Go.Proofs.Ytiilppebcpkclaa
/- THE CELL 'sum', in the pinned program and in every row, IS THE sha256 OF THE DUMP (.gsa) THAT YtiilppebcpkclaaProg.lean LOADS. Nothing in Lean hashes anything: it is a label: what it is worth is what the hold of that sum in a sandbox is worth. -/
noncomputable def Try.pinned : Pinned := { name := "ytiilppebcpkclaa", sum := "49f828e1fd4fcf3056ed81f4092a4b2b1d99349896d4133ec2dac8ec9b44c316", checked := Try.checked }
namespace Rows
def none {H : Type} : Left H := { results := [], args := [] }

/-- 'idshiftlaw.IdmapSays': WHATEVER THE INPUT: true; the input reads as it did. -/
def idmapSaysSpec : ChangeSpec := { name := "idmapSays", fn := fun _ => fun
  | [d1, d2, d3] => { results := [.lit (.bool true)], args := [d1, d2, d3] }
  | _ => none }
def idmapSaysRow : OpenClaim := { program := "ytiilppebcpkclaa", sum := "49f828e1fd4fcf3056ed81f4092a4b2b1d99349896d4133ec2dac8ec9b44c316", func := "idshift/idshiftlaw.IdmapSays", spec := "idmapSays", unfollowed := true, recurses := true, apart := false }
def IdmapSaysSaid : Prop := idmapSaysRow.holds Try.pinned (OpenSpec.ofChange idmapSaysSpec)

/-- ITS FALSE NEIGHBOUR: 'it returns false'. Refute it at one input. -/
def idmapSaysWrong : ChangeSpec := { name := "idmapSays", fn := fun _ => fun
  | [d1, d2, d3] => { results := [.lit (.bool false)], args := [d1, d2, d3] }
  | _ => none }
def IdmapSaysWrongFalsely : Prop := idmapSaysRow.holds Try.pinned (OpenSpec.ofChange idmapSaysWrong)

/-- 'idshiftlaw.CredSays': WHATEVER THE INPUT: true; the input reads as it did. -/
def credSaysSpec : ChangeSpec := { name := "credSays", fn := fun _ => fun
  | [d1, d2, d3, d4, d5] => { results := [.lit (.bool true)], args := [d1, d2, d3, d4, d5] }
  | _ => none }
def credSaysRow : OpenClaim := { program := "ytiilppebcpkclaa", sum := "49f828e1fd4fcf3056ed81f4092a4b2b1d99349896d4133ec2dac8ec9b44c316", func := "idshift/idshiftlaw.CredSays", spec := "credSays", apart := false }
def CredSaysSaid : Prop := credSaysRow.holds Try.pinned (OpenSpec.ofChange credSaysSpec)

/-- ITS FALSE NEIGHBOUR: 'it returns false'. Refute it at one input. -/
def credSaysWrong : ChangeSpec := { name := "credSays", fn := fun _ => fun
  | [d1, d2, d3, d4, d5] => { results := [.lit (.bool false)], args := [d1, d2, d3, d4, d5] }
  | _ => none }
def CredSaysWrongFalsely : Prop := credSaysRow.holds Try.pinned (OpenSpec.ofChange credSaysWrong)

/-- 'idshifttop.TopIds': WHATEVER THE INPUT: true; the input reads as it did. -/
def topIdsSpec : ChangeSpec := { name := "topIds", fn := fun _ => fun
  | [d1, d2, d3] => { results := [.lit (.bool true)], args := [d1, d2, d3] }
  | _ => none }
def topIdsRow : OpenClaim := { program := "ytiilppebcpkclaa", sum := "49f828e1fd4fcf3056ed81f4092a4b2b1d99349896d4133ec2dac8ec9b44c316", func := "idshift/idshifttop.TopIds", spec := "topIds", unfollowed := true, recurses := true, apart := false }
def TopIdsSaid : Prop := topIdsRow.holds Try.pinned (OpenSpec.ofChange topIdsSpec)

/-- ITS FALSE NEIGHBOUR: 'it returns false'. Refute it at one input. -/
def topIdsWrong : ChangeSpec := { name := "topIds", fn := fun _ => fun
  | [d1, d2, d3] => { results := [.lit (.bool false)], args := [d1, d2, d3] }
  | _ => none }
def TopIdsWrongFalsely : Prop := topIdsRow.holds Try.pinned (OpenSpec.ofChange topIdsWrong)

/-- 'idshifttop.TopCred': WHATEVER THE INPUT: true; the input reads as it did. -/
def topCredSpec : ChangeSpec := { name := "topCred", fn := fun _ => fun
  | [d1, d2, d3] => { results := [.lit (.bool true)], args := [d1, d2, d3] }
  | _ => none }
def topCredRow : OpenClaim := { program := "ytiilppebcpkclaa", sum := "49f828e1fd4fcf3056ed81f4092a4b2b1d99349896d4133ec2dac8ec9b44c316", func := "idshift/idshifttop.TopCred", spec := "topCred", apart := false }
def TopCredSaid : Prop := topCredRow.holds Try.pinned (OpenSpec.ofChange topCredSpec)

/-- ITS FALSE NEIGHBOUR: 'it returns false'. Refute it at one input. -/
def topCredWrong : ChangeSpec := { name := "topCred", fn := fun _ => fun
  | [d1, d2, d3] => { results := [.lit (.bool false)], args := [d1, d2, d3] }
  | _ => none }
def TopCredWrongFalsely : Prop := topCredRow.holds Try.pinned (OpenSpec.ofChange topCredWrong)

/-- 'idshiftlaw.PermSays': WHATEVER THE INPUT: true; the input reads as it did. -/
def permSaysSpec : ChangeSpec := { name := "permSays", fn := fun _ => fun
  | [d1, d2, d3, d4] => { results := [.lit (.bool true)], args := [d1, d2, d3, d4] }
  | _ => none }
def permSaysRow : OpenClaim := { program := "ytiilppebcpkclaa", sum := "49f828e1fd4fcf3056ed81f4092a4b2b1d99349896d4133ec2dac8ec9b44c316", func := "idshift/idshiftlaw.PermSays", spec := "permSays", apart := false }
def PermSaysSaid : Prop := permSaysRow.holds Try.pinned (OpenSpec.ofChange permSaysSpec)

/-- ITS FALSE NEIGHBOUR: 'it returns false'. Refute it at one input. -/
def permSaysWrong : ChangeSpec := { name := "permSays", fn := fun _ => fun
  | [d1, d2, d3, d4] => { results := [.lit (.bool false)], args := [d1, d2, d3, d4] }
  | _ => none }
def PermSaysWrongFalsely : Prop := permSaysRow.holds Try.pinned (OpenSpec.ofChange permSaysWrong)

/-- 'idshifttop.TopRights': WHATEVER THE INPUT: true; the input reads as it did. -/
def topRightsSpec : ChangeSpec := { name := "topRights", fn := fun _ => fun
  | [d1, d2, d3, d4, d5, d6] => { results := [.lit (.bool true)], args := [d1, d2, d3, d4, d5, d6] }
  | _ => none }
def topRightsRow : OpenClaim := { program := "ytiilppebcpkclaa", sum := "49f828e1fd4fcf3056ed81f4092a4b2b1d99349896d4133ec2dac8ec9b44c316", func := "idshift/idshifttop.TopRights", spec := "topRights", apart := false }
def TopRightsSaid : Prop := topRightsRow.holds Try.pinned (OpenSpec.ofChange topRightsSpec)

/-- ITS FALSE NEIGHBOUR: 'it returns false'. Refute it at one input. -/
def topRightsWrong : ChangeSpec := { name := "topRights", fn := fun _ => fun
  | [d1, d2, d3, d4, d5, d6] => { results := [.lit (.bool false)], args := [d1, d2, d3, d4, d5, d6] }
  | _ => none }
def TopRightsWrongFalsely : Prop := topRightsRow.holds Try.pinned (OpenSpec.ofChange topRightsWrong)

/-- 'idshiftlaw.AttrSays': WHATEVER THE INPUT: true; the input reads as it did. -/
def attrSaysSpec : ChangeSpec := { name := "attrSays", fn := fun _ => fun
  | [d1, d2, d3] => { results := [.lit (.bool true)], args := [d1, d2, d3] }
  | _ => none }
def attrSaysRow : OpenClaim := { program := "ytiilppebcpkclaa", sum := "49f828e1fd4fcf3056ed81f4092a4b2b1d99349896d4133ec2dac8ec9b44c316", func := "idshift/idshiftlaw.AttrSays", spec := "attrSays", inPlace := ["internal/bytealg.IndexByteString", "internal/bytealg.IndexString"], unfollowed := true, recurses := true, named := ["internal/bytealg.MaxLen"], apart := false }
def AttrSaysSaid : Prop := attrSaysRow.holds Try.pinned (OpenSpec.ofChange attrSaysSpec)

/-- ITS FALSE NEIGHBOUR: 'it returns false'. Refute it at one input. -/
def attrSaysWrong : ChangeSpec := { name := "attrSays", fn := fun _ => fun
  | [d1, d2, d3] => { results := [.lit (.bool false)], args := [d1, d2, d3] }
  | _ => none }
def AttrSaysWrongFalsely : Prop := attrSaysRow.holds Try.pinned (OpenSpec.ofChange attrSaysWrong)

/-- 'idshifttop.TopAttrs': WHATEVER THE INPUT: true; the input reads as it did. -/
def topAttrsSpec : ChangeSpec := { name := "topAttrs", fn := fun _ => fun
  | [d] => { results := [.lit (.bool true)], args := [d] }
  | _ => none }
def topAttrsRow : OpenClaim := { program := "ytiilppebcpkclaa", sum := "49f828e1fd4fcf3056ed81f4092a4b2b1d99349896d4133ec2dac8ec9b44c316", func := "idshift/idshifttop.TopAttrs", spec := "topAttrs", inPlace := ["internal/bytealg.IndexByteString", "internal/bytealg.IndexString"], unfollowed := true, recurses := true, named := ["internal/bytealg.MaxLen"], apart := false }
def TopAttrsSaid : Prop := topAttrsRow.holds Try.pinned (OpenSpec.ofChange topAttrsSpec)

/-- ITS FALSE NEIGHBOUR: 'it returns false'. Refute it at one input. -/
def topAttrsWrong : ChangeSpec := { name := "topAttrs", fn := fun _ => fun
  | [d] => { results := [.lit (.bool false)], args := [d] }
  | _ => none }
def TopAttrsWrongFalsely : Prop := topAttrsRow.holds Try.pinned (OpenSpec.ofChange topAttrsWrong)

/-- 'idshiftlaw.TreeSays': WHATEVER THE INPUT: true; the input reads as it did. -/
def treeSaysSpec : ChangeSpec := { name := "treeSays", fn := fun _ => fun
  | [d1, d2, d3, d4] => { results := [.lit (.bool true)], args := [d1, d2, d3, d4] }
  | _ => none }
def treeSaysRow : OpenClaim := { program := "ytiilppebcpkclaa", sum := "49f828e1fd4fcf3056ed81f4092a4b2b1d99349896d4133ec2dac8ec9b44c316", func := "idshift/idshiftlaw.TreeSays", spec := "treeSays", inPlace := ["internal/bytealg.IndexByteString", "internal/bytealg.IndexString"], unfollowed := true, recurses := true, named := ["internal/bytealg.MaxLen"], loops := true, apart := false }
def TreeSaysSaid : Prop := treeSaysRow.holds Try.pinned (OpenSpec.ofChange treeSaysSpec)

/-- ITS FALSE NEIGHBOUR: 'it returns false'. Refute it at one input. -/
def treeSaysWrong : ChangeSpec := { name := "treeSays", fn := fun _ => fun
  | [d1, d2, d3, d4] => { results := [.lit (.bool false)], args := [d1, d2, d3, d4] }
  | _ => none }
def TreeSaysWrongFalsely : Prop := treeSaysRow.holds Try.pinned (OpenSpec.ofChange treeSaysWrong)

/- THE SECOND FORM. 'bulk': how many values and letters a reading holds, each counted each time it is reached (what is shared counts as often as it is met; a slice's spare places count too). A statement '..UptoSaid' is the law's where the arguments, and the package variables that the reading takes, are together of bulk at most 1048576: NARROWER than '..Said'. Prove '..Said' where nothing that the law and all that it calls make is longer than what came in: it says more and counts as full. Else prove '..UptoSaid'. A law counts once. -/
mutual
def uptoBulk {H : Type} : DataW H → Nat
  | .lit (.string bytes) => bytes.length + 1
  | .lit _ => 1
  | .nil => 1
  | .ptr d => uptoBulk d + 1
  | .slice elems spare => uptoBulkAll elems + uptoBulkAll spare + 1
  | .agg parts => uptoBulkAll parts + 1
  | .iface _ d => uptoBulk d + 1
  | .map entries => uptoBulkEntries entries + 1
  | .held _ => 1
def uptoBulkAll {H : Type} : List (DataW H) → Nat
  | [] => 0
  | d :: r => uptoBulk d + uptoBulkAll r
def uptoBulkEntries {H : Type} : List (Lit × DataW H) → Nat
  | [] => 0
  | x :: r => uptoBulkEntry x + uptoBulkEntries r
def uptoBulkEntry {H : Type} : Lit × DataW H → Nat
  | (.string bytes, d) => bytes.length + uptoBulk d + 1
  | (_, d) => uptoBulk d + 1
 end
def uptoSmall : (H : Type) → List (DataW H) → Bool := fun _ ds => decide (uptoBulkAll ds ≤ 1048576)
def OpenSpec.upto (s : _root_.Go.ChangeSpec) : _root_.Go.OpenSpec := { _root_.Go.OpenSpec.ofChange s with cond := some uptoSmall }

/-- 'idshiftlaw.IdmapSays', WHERE WHAT IT READS IS OF BULK AT MOST 1048576: true; the input reads as it did. -/
def idmapSaysUptoRow : OpenClaim := { program := "ytiilppebcpkclaa", sum := "49f828e1fd4fcf3056ed81f4092a4b2b1d99349896d4133ec2dac8ec9b44c316", func := "idshift/idshiftlaw.IdmapSays", spec := "idmapSays", unfollowed := true, recurses := true, apart := false, narrowed := true }
def IdmapSaysUptoSaid : Prop := idmapSaysUptoRow.holds Try.pinned (OpenSpec.upto idmapSaysSpec)

/-- 'idshiftlaw.CredSays', WHERE WHAT IT READS IS OF BULK AT MOST 1048576: true; the input reads as it did. -/
def credSaysUptoRow : OpenClaim := { program := "ytiilppebcpkclaa", sum := "49f828e1fd4fcf3056ed81f4092a4b2b1d99349896d4133ec2dac8ec9b44c316", func := "idshift/idshiftlaw.CredSays", spec := "credSays", apart := false, narrowed := true }
def CredSaysUptoSaid : Prop := credSaysUptoRow.holds Try.pinned (OpenSpec.upto credSaysSpec)

/-- 'idshifttop.TopIds', WHERE WHAT IT READS IS OF BULK AT MOST 1048576: true; the input reads as it did. -/
def topIdsUptoRow : OpenClaim := { program := "ytiilppebcpkclaa", sum := "49f828e1fd4fcf3056ed81f4092a4b2b1d99349896d4133ec2dac8ec9b44c316", func := "idshift/idshifttop.TopIds", spec := "topIds", unfollowed := true, recurses := true, apart := false, narrowed := true }
def TopIdsUptoSaid : Prop := topIdsUptoRow.holds Try.pinned (OpenSpec.upto topIdsSpec)

/-- 'idshifttop.TopCred', WHERE WHAT IT READS IS OF BULK AT MOST 1048576: true; the input reads as it did. -/
def topCredUptoRow : OpenClaim := { program := "ytiilppebcpkclaa", sum := "49f828e1fd4fcf3056ed81f4092a4b2b1d99349896d4133ec2dac8ec9b44c316", func := "idshift/idshifttop.TopCred", spec := "topCred", apart := false, narrowed := true }
def TopCredUptoSaid : Prop := topCredUptoRow.holds Try.pinned (OpenSpec.upto topCredSpec)

/-- 'idshiftlaw.PermSays', WHERE WHAT IT READS IS OF BULK AT MOST 1048576: true; the input reads as it did. -/
def permSaysUptoRow : OpenClaim := { program := "ytiilppebcpkclaa", sum := "49f828e1fd4fcf3056ed81f4092a4b2b1d99349896d4133ec2dac8ec9b44c316", func := "idshift/idshiftlaw.PermSays", spec := "permSays", apart := false, narrowed := true }
def PermSaysUptoSaid : Prop := permSaysUptoRow.holds Try.pinned (OpenSpec.upto permSaysSpec)

/-- 'idshifttop.TopRights', WHERE WHAT IT READS IS OF BULK AT MOST 1048576: true; the input reads as it did. -/
def topRightsUptoRow : OpenClaim := { program := "ytiilppebcpkclaa", sum := "49f828e1fd4fcf3056ed81f4092a4b2b1d99349896d4133ec2dac8ec9b44c316", func := "idshift/idshifttop.TopRights", spec := "topRights", apart := false, narrowed := true }
def TopRightsUptoSaid : Prop := topRightsUptoRow.holds Try.pinned (OpenSpec.upto topRightsSpec)

/-- 'idshiftlaw.AttrSays', WHERE WHAT IT READS IS OF BULK AT MOST 1048576: true; the input reads as it did. -/
def attrSaysUptoRow : OpenClaim := { program := "ytiilppebcpkclaa", sum := "49f828e1fd4fcf3056ed81f4092a4b2b1d99349896d4133ec2dac8ec9b44c316", func := "idshift/idshiftlaw.AttrSays", spec := "attrSays", inPlace := ["internal/bytealg.IndexByteString", "internal/bytealg.IndexString"], unfollowed := true, recurses := true, named := ["internal/bytealg.MaxLen"], apart := false, narrowed := true }
def AttrSaysUptoSaid : Prop := attrSaysUptoRow.holds Try.pinned (OpenSpec.upto attrSaysSpec)

/-- 'idshifttop.TopAttrs', WHERE WHAT IT READS IS OF BULK AT MOST 1048576: true; the input reads as it did. -/
def topAttrsUptoRow : OpenClaim := { program := "ytiilppebcpkclaa", sum := "49f828e1fd4fcf3056ed81f4092a4b2b1d99349896d4133ec2dac8ec9b44c316", func := "idshift/idshifttop.TopAttrs", spec := "topAttrs", inPlace := ["internal/bytealg.IndexByteString", "internal/bytealg.IndexString"], unfollowed := true, recurses := true, named := ["internal/bytealg.MaxLen"], apart := false, narrowed := true }
def TopAttrsUptoSaid : Prop := topAttrsUptoRow.holds Try.pinned (OpenSpec.upto topAttrsSpec)

/-- 'idshiftlaw.TreeSays', WHERE WHAT IT READS IS OF BULK AT MOST 1048576: true; the input reads as it did. -/
def treeSaysUptoRow : OpenClaim := { program := "ytiilppebcpkclaa", sum := "49f828e1fd4fcf3056ed81f4092a4b2b1d99349896d4133ec2dac8ec9b44c316", func := "idshift/idshiftlaw.TreeSays", spec := "treeSays", inPlace := ["internal/bytealg.IndexByteString", "internal/bytealg.IndexString"], unfollowed := true, recurses := true, named := ["internal/bytealg.MaxLen"], loops := true, apart := false, narrowed := true }
def TreeSaysUptoSaid : Prop := treeSaysUptoRow.holds Try.pinned (OpenSpec.upto treeSaysSpec)

end Rows
end Go.Proofs.Ytiilppebcpkclaa
