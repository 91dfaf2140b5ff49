/-
  No cell of these rows narrows 'for every input' (looked for: loops, veiled, ifaces, maps, wideKeys, modest, calm, conditions, laid).
  DERIVED. THE GIVEN ROWS OF THIS SEAT. 6 by the template 'for every input the law returns true; each argument reads behind the call as it read before'; 0 by the template 'total and deterministic' (their statements: YtpejeoekpejblaoTotals.lean).
  GIVEN WITH THE SEED: the statements are not yours to turn. If you find one false, say at which input.
  Laid BY PROGRAM, IN A SANDBOX (cutbox-rows.mjs): the forced cells as the released guide's own fill.sh prints them over the translation 666c5f8df8875fb3… (all of the seat's roots in one cut). By AI agents, Wed Nov 11 2026. No macro, syntax, notation, axiom, sorry.
-/
import Derived.Test.YtpejeoekpejblaoChecked
import GoSem.Claim
import GoSem.ClaimJoined
import GoSem.ClaimMapViews
import Derived.JoinedTies
import Derived.KernelRfl
namespace Go.Proofs.Ytpejeoekpejblao
/- THE CELL 'sum', in the pinned program and in every row, IS THE sha256 OF THE DUMP (.gsa) THAT YtpejeoekpejblaoProg.lean LOADS. Nothing in Lean hashes anything: it is a label: what it is worth is what the hold of that sum in a sandbox is worth. -/
noncomputable def Try.pinned : Pinned := { name := "ytpejeoekpejblao", sum := "666c5f8df8875fb37194cbd44f70ecb0372418fb1c4cab72da838993de35ce8f", checked := Try.checked }
namespace Rows
def none {H : Type} : Left H := { results := [], args := [] }

/-- 'laws.FnExactMoved': WHATEVER THE INPUT: true; the input reads as it did. -/
def fnExactMovedSpec : ChangeSpec := { name := "fnExactMoved", fn := fun _ => fun
  | [d1, d2] => { results := [.lit (.bool true)], args := [d1, d2] }
  | _ => none }
def fnExactMovedRow : OpenClaim := { program := "ytpejeoekpejblao", sum := "666c5f8df8875fb37194cbd44f70ecb0372418fb1c4cab72da838993de35ce8f", func := "loop.example/g00241/laws.FnExactMoved", spec := "fnExactMoved", apart := false }
def FnExactMovedSaid : Prop := fnExactMovedRow.holds Try.pinned (OpenSpec.ofChange fnExactMovedSpec)

/-- ITS FALSE NEIGHBOUR: 'it returns false'. Refute it at one input. -/
def fnExactMovedWrong : ChangeSpec := { name := "fnExactMoved", fn := fun _ => fun
  | [d1, d2] => { results := [.lit (.bool false)], args := [d1, d2] }
  | _ => none }
def FnExactMovedWrongFalsely : Prop := fnExactMovedRow.holds Try.pinned (OpenSpec.ofChange fnExactMovedWrong)

/-- 'laws.FnExactPrimaries': WHATEVER THE INPUT: true; the input reads as it did. -/
def fnExactPrimariesSpec : ChangeSpec := { name := "fnExactPrimaries", fn := fun _ => fun
  | [d1, d2] => { results := [.lit (.bool true)], args := [d1, d2] }
  | _ => none }
def fnExactPrimariesRow : OpenClaim := { program := "ytpejeoekpejblao", sum := "666c5f8df8875fb37194cbd44f70ecb0372418fb1c4cab72da838993de35ce8f", func := "loop.example/g00241/laws.FnExactPrimaries", spec := "fnExactPrimaries", unfollowed := true, recurses := true, apart := false }
def FnExactPrimariesSaid : Prop := fnExactPrimariesRow.holds Try.pinned (OpenSpec.ofChange fnExactPrimariesSpec)

/-- ITS FALSE NEIGHBOUR: 'it returns false'. Refute it at one input. -/
def fnExactPrimariesWrong : ChangeSpec := { name := "fnExactPrimaries", fn := fun _ => fun
  | [d1, d2] => { results := [.lit (.bool false)], args := [d1, d2] }
  | _ => none }
def FnExactPrimariesWrongFalsely : Prop := fnExactPrimariesRow.holds Try.pinned (OpenSpec.ofChange fnExactPrimariesWrong)

/-- 'laws.FnExactHandoffs': WHATEVER THE INPUT: true; the input reads as it did. -/
def fnExactHandoffsSpec : ChangeSpec := { name := "fnExactHandoffs", fn := fun _ => fun
  | [d1, d2, d3] => { results := [.lit (.bool true)], args := [d1, d2, d3] }
  | _ => none }
def fnExactHandoffsRow : OpenClaim := { program := "ytpejeoekpejblao", sum := "666c5f8df8875fb37194cbd44f70ecb0372418fb1c4cab72da838993de35ce8f", func := "loop.example/g00241/laws.FnExactHandoffs", spec := "fnExactHandoffs", unfollowed := true, recurses := true, apart := false }
def FnExactHandoffsSaid : Prop := fnExactHandoffsRow.holds Try.pinned (OpenSpec.ofChange fnExactHandoffsSpec)

/-- ITS FALSE NEIGHBOUR: 'it returns false'. Refute it at one input. -/
def fnExactHandoffsWrong : ChangeSpec := { name := "fnExactHandoffs", fn := fun _ => fun
  | [d1, d2, d3] => { results := [.lit (.bool false)], args := [d1, d2, d3] }
  | _ => none }
def FnExactHandoffsWrongFalsely : Prop := fnExactHandoffsRow.holds Try.pinned (OpenSpec.ofChange fnExactHandoffsWrong)

/-- 'laws.FnExactIsPrimary': WHATEVER THE INPUT: true; the input reads as it did. -/
def fnExactIsPrimarySpec : ChangeSpec := { name := "fnExactIsPrimary", fn := fun _ => fun
  | [d1, d2, d3] => { results := [.lit (.bool true)], args := [d1, d2, d3] }
  | _ => none }
def fnExactIsPrimaryRow : OpenClaim := { program := "ytpejeoekpejblao", sum := "666c5f8df8875fb37194cbd44f70ecb0372418fb1c4cab72da838993de35ce8f", func := "loop.example/g00241/laws.FnExactIsPrimary", spec := "fnExactIsPrimary", unfollowed := true, recurses := true, apart := false }
def FnExactIsPrimarySaid : Prop := fnExactIsPrimaryRow.holds Try.pinned (OpenSpec.ofChange fnExactIsPrimarySpec)

/-- ITS FALSE NEIGHBOUR: 'it returns false'. Refute it at one input. -/
def fnExactIsPrimaryWrong : ChangeSpec := { name := "fnExactIsPrimary", fn := fun _ => fun
  | [d1, d2, d3] => { results := [.lit (.bool false)], args := [d1, d2, d3] }
  | _ => none }
def FnExactIsPrimaryWrongFalsely : Prop := fnExactIsPrimaryRow.holds Try.pinned (OpenSpec.ofChange fnExactIsPrimaryWrong)

/-- 'laws.FnExactFileOk': WHATEVER THE INPUT: true; the input reads as it did. -/
def fnExactFileOkSpec : ChangeSpec := { name := "fnExactFileOk", fn := fun _ => fun
  | [d] => { results := [.lit (.bool true)], args := [d] }
  | _ => none }
def fnExactFileOkRow : OpenClaim := { program := "ytpejeoekpejblao", sum := "666c5f8df8875fb37194cbd44f70ecb0372418fb1c4cab72da838993de35ce8f", func := "loop.example/g00241/laws.FnExactFileOk", spec := "fnExactFileOk", apart := false }
def FnExactFileOkSaid : Prop := fnExactFileOkRow.holds Try.pinned (OpenSpec.ofChange fnExactFileOkSpec)

/-- ITS FALSE NEIGHBOUR: 'it returns false'. Refute it at one input. -/
def fnExactFileOkWrong : ChangeSpec := { name := "fnExactFileOk", fn := fun _ => fun
  | [d] => { results := [.lit (.bool false)], args := [d] }
  | _ => none }
def FnExactFileOkWrongFalsely : Prop := fnExactFileOkRow.holds Try.pinned (OpenSpec.ofChange fnExactFileOkWrong)

/-- 'laws.FnExactPutFile': WHATEVER THE INPUT: true; the input reads as it did. -/
def fnExactPutFileSpec : ChangeSpec := { name := "fnExactPutFile", fn := fun _ => fun
  | [d] => { results := [.lit (.bool true)], args := [d] }
  | _ => none }
def fnExactPutFileRow : OpenClaim := { program := "ytpejeoekpejblao", sum := "666c5f8df8875fb37194cbd44f70ecb0372418fb1c4cab72da838993de35ce8f", func := "loop.example/g00241/laws.FnExactPutFile", spec := "fnExactPutFile", unfollowed := true, recurses := true, apart := false }
def FnExactPutFileSaid : Prop := fnExactPutFileRow.holds Try.pinned (OpenSpec.ofChange fnExactPutFileSpec)

/-- ITS FALSE NEIGHBOUR: 'it returns false'. Refute it at one input. -/
def fnExactPutFileWrong : ChangeSpec := { name := "fnExactPutFile", fn := fun _ => fun
  | [d] => { results := [.lit (.bool false)], args := [d] }
  | _ => none }
def FnExactPutFileWrongFalsely : Prop := fnExactPutFileRow.holds Try.pinned (OpenSpec.ofChange fnExactPutFileWrong)

/- THE SECOND FORM. 'bulk': how many values and letters a reading holds, each counted each time it is reached (what is shared counts as often as it is met; a slice's spare places count too). A statement '..UptoSaid' is the law's where the arguments, and the package variables that the reading takes, are together of bulk at most 1048576: NARROWER than '..Said'. Prove '..Said' where nothing that the law and all that it calls make is longer than what came in: it says more and counts as full. Else prove '..UptoSaid'. A law counts once. -/
mutual
def uptoBulk {H : Type} : DataW H → Nat
  | .lit (.string bytes) => bytes.length + 1
  | .lit _ => 1
  | .nil => 1
  | .ptr d => uptoBulk d + 1
  | .slice elems spare => uptoBulkAll elems + uptoBulkAll spare + 1
  | .agg parts => uptoBulkAll parts + 1
  | .iface _ d => uptoBulk d + 1
  | .map entries => uptoBulkEntries entries + 1
  | .held _ => 1
def uptoBulkAll {H : Type} : List (DataW H) → Nat
  | [] => 0
  | d :: r => uptoBulk d + uptoBulkAll r
def uptoBulkEntries {H : Type} : List (Lit × DataW H) → Nat
  | [] => 0
  | x :: r => uptoBulkEntry x + uptoBulkEntries r
def uptoBulkEntry {H : Type} : Lit × DataW H → Nat
  | (.string bytes, d) => bytes.length + uptoBulk d + 1
  | (_, d) => uptoBulk d + 1
 end
def uptoSmall : (H : Type) → List (DataW H) → Bool := fun _ ds => decide (uptoBulkAll ds ≤ 1048576)
def OpenSpec.upto (s : _root_.Go.ChangeSpec) : _root_.Go.OpenSpec := { _root_.Go.OpenSpec.ofChange s with cond := some uptoSmall }

/-- 'laws.FnExactMoved', WHERE WHAT IT READS IS OF BULK AT MOST 1048576: true; the input reads as it did. -/
def fnExactMovedUptoRow : OpenClaim := { program := "ytpejeoekpejblao", sum := "666c5f8df8875fb37194cbd44f70ecb0372418fb1c4cab72da838993de35ce8f", func := "loop.example/g00241/laws.FnExactMoved", spec := "fnExactMoved", apart := false, narrowed := true }
def FnExactMovedUptoSaid : Prop := fnExactMovedUptoRow.holds Try.pinned (OpenSpec.upto fnExactMovedSpec)

/-- 'laws.FnExactPrimaries', WHERE WHAT IT READS IS OF BULK AT MOST 1048576: true; the input reads as it did. -/
def fnExactPrimariesUptoRow : OpenClaim := { program := "ytpejeoekpejblao", sum := "666c5f8df8875fb37194cbd44f70ecb0372418fb1c4cab72da838993de35ce8f", func := "loop.example/g00241/laws.FnExactPrimaries", spec := "fnExactPrimaries", unfollowed := true, recurses := true, apart := false, narrowed := true }
def FnExactPrimariesUptoSaid : Prop := fnExactPrimariesUptoRow.holds Try.pinned (OpenSpec.upto fnExactPrimariesSpec)

/-- 'laws.FnExactHandoffs', WHERE WHAT IT READS IS OF BULK AT MOST 1048576: true; the input reads as it did. -/
def fnExactHandoffsUptoRow : OpenClaim := { program := "ytpejeoekpejblao", sum := "666c5f8df8875fb37194cbd44f70ecb0372418fb1c4cab72da838993de35ce8f", func := "loop.example/g00241/laws.FnExactHandoffs", spec := "fnExactHandoffs", unfollowed := true, recurses := true, apart := false, narrowed := true }
def FnExactHandoffsUptoSaid : Prop := fnExactHandoffsUptoRow.holds Try.pinned (OpenSpec.upto fnExactHandoffsSpec)

/-- 'laws.FnExactIsPrimary', WHERE WHAT IT READS IS OF BULK AT MOST 1048576: true; the input reads as it did. -/
def fnExactIsPrimaryUptoRow : OpenClaim := { program := "ytpejeoekpejblao", sum := "666c5f8df8875fb37194cbd44f70ecb0372418fb1c4cab72da838993de35ce8f", func := "loop.example/g00241/laws.FnExactIsPrimary", spec := "fnExactIsPrimary", unfollowed := true, recurses := true, apart := false, narrowed := true }
def FnExactIsPrimaryUptoSaid : Prop := fnExactIsPrimaryUptoRow.holds Try.pinned (OpenSpec.upto fnExactIsPrimarySpec)

/-- 'laws.FnExactFileOk', WHERE WHAT IT READS IS OF BULK AT MOST 1048576: true; the input reads as it did. -/
def fnExactFileOkUptoRow : OpenClaim := { program := "ytpejeoekpejblao", sum := "666c5f8df8875fb37194cbd44f70ecb0372418fb1c4cab72da838993de35ce8f", func := "loop.example/g00241/laws.FnExactFileOk", spec := "fnExactFileOk", apart := false, narrowed := true }
def FnExactFileOkUptoSaid : Prop := fnExactFileOkUptoRow.holds Try.pinned (OpenSpec.upto fnExactFileOkSpec)

/-- 'laws.FnExactPutFile', WHERE WHAT IT READS IS OF BULK AT MOST 1048576: true; the input reads as it did. -/
def fnExactPutFileUptoRow : OpenClaim := { program := "ytpejeoekpejblao", sum := "666c5f8df8875fb37194cbd44f70ecb0372418fb1c4cab72da838993de35ce8f", func := "loop.example/g00241/laws.FnExactPutFile", spec := "fnExactPutFile", unfollowed := true, recurses := true, apart := false, narrowed := true }
def FnExactPutFileUptoSaid : Prop := fnExactPutFileUptoRow.holds Try.pinned (OpenSpec.upto fnExactPutFileSpec)

end Rows
end Go.Proofs.Ytpejeoekpejblao
