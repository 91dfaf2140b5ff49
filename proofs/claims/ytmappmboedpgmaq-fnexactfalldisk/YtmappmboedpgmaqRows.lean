/-
  No cell of these rows narrows 'for every input' (looked for: loops, veiled, ifaces, maps, wideKeys, modest, calm, conditions, laid).
  DERIVED. THE GIVEN ROWS OF THIS SEAT. 4 by the template 'for every input the law returns true; each argument reads behind the call as it read before'; 0 by the template 'total and deterministic' (their statements: YtmappmboedpgmaqTotals.lean).
  GIVEN WITH THE SEED: the statements are not yours to turn. If you find one false, say at which input.
  Laid BY PROGRAM, IN A SANDBOX (cutbox-rows.mjs): the forced cells as the released guide's own fill.sh prints them over the translation 2ad337ca2ff6d107… (all of the seat's roots in one cut). By AI agents, Wed Nov 11 2026. No macro, syntax, notation, axiom, sorry.
-/
import Derived.Test.YtmappmboedpgmaqChecked
import GoSem.Claim
import GoSem.ClaimJoined
import GoSem.ClaimMapViews
import Derived.JoinedTies
import Derived.KernelRfl
namespace Go.Proofs.Ytmappmboedpgmaq
/- THE CELL 'sum', in the pinned program and in every row, IS THE sha256 OF THE DUMP (.gsa) THAT YtmappmboedpgmaqProg.lean LOADS. Nothing in Lean hashes anything: it is a label: what it is worth is what the hold of that sum in a sandbox is worth. -/
noncomputable def Try.pinned : Pinned := { name := "ytmappmboedpgmaq", sum := "2ad337ca2ff6d107b4e1a6368a4fd4956c07363b4a9a6069e1b602e022fe5a69", checked := Try.checked }
namespace Rows
def none {H : Type} : Left H := { results := [], args := [] }

/-- 'laws.FnExactRemoveName': WHATEVER THE INPUT: true; the input reads as it did. -/
def fnExactRemoveNameSpec : ChangeSpec := { name := "fnExactRemoveName", fn := fun _ => fun
  | [d1, d2] => { results := [.lit (.bool true)], args := [d1, d2] }
  | _ => none }
def fnExactRemoveNameRow : OpenClaim := { program := "ytmappmboedpgmaq", sum := "2ad337ca2ff6d107b4e1a6368a4fd4956c07363b4a9a6069e1b602e022fe5a69", func := "loop.example/g00241/laws.FnExactRemoveName", spec := "fnExactRemoveName", unfollowed := true, recurses := true, apart := false }
def FnExactRemoveNameSaid : Prop := fnExactRemoveNameRow.holds Try.pinned (OpenSpec.ofChange fnExactRemoveNameSpec)

/-- ITS FALSE NEIGHBOUR: 'it returns false'. Refute it at one input. -/
def fnExactRemoveNameWrong : ChangeSpec := { name := "fnExactRemoveName", fn := fun _ => fun
  | [d1, d2] => { results := [.lit (.bool false)], args := [d1, d2] }
  | _ => none }
def FnExactRemoveNameWrongFalsely : Prop := fnExactRemoveNameRow.holds Try.pinned (OpenSpec.ofChange fnExactRemoveNameWrong)

/-- 'laws.FnExactSyncName': WHATEVER THE INPUT: true; the input reads as it did. -/
def fnExactSyncNameSpec : ChangeSpec := { name := "fnExactSyncName", fn := fun _ => fun
  | [d1, d2] => { results := [.lit (.bool true)], args := [d1, d2] }
  | _ => none }
def fnExactSyncNameRow : OpenClaim := { program := "ytmappmboedpgmaq", sum := "2ad337ca2ff6d107b4e1a6368a4fd4956c07363b4a9a6069e1b602e022fe5a69", func := "loop.example/g00241/laws.FnExactSyncName", spec := "fnExactSyncName", unfollowed := true, recurses := true, apart := false }
def FnExactSyncNameSaid : Prop := fnExactSyncNameRow.holds Try.pinned (OpenSpec.ofChange fnExactSyncNameSpec)

/-- ITS FALSE NEIGHBOUR: 'it returns false'. Refute it at one input. -/
def fnExactSyncNameWrong : ChangeSpec := { name := "fnExactSyncName", fn := fun _ => fun
  | [d1, d2] => { results := [.lit (.bool false)], args := [d1, d2] }
  | _ => none }
def FnExactSyncNameWrongFalsely : Prop := fnExactSyncNameRow.holds Try.pinned (OpenSpec.ofChange fnExactSyncNameWrong)

/-- 'laws.FnExactFallDisk': WHATEVER THE INPUT: true; the input reads as it did. -/
def fnExactFallDiskSpec : ChangeSpec := { name := "fnExactFallDisk", fn := fun _ => fun
  | [d1, d2] => { results := [.lit (.bool true)], args := [d1, d2] }
  | _ => none }
def fnExactFallDiskRow : OpenClaim := { program := "ytmappmboedpgmaq", sum := "2ad337ca2ff6d107b4e1a6368a4fd4956c07363b4a9a6069e1b602e022fe5a69", func := "loop.example/g00241/laws.FnExactFallDisk", spec := "fnExactFallDisk", unfollowed := true, recurses := true, apart := false }
def FnExactFallDiskSaid : Prop := fnExactFallDiskRow.holds Try.pinned (OpenSpec.ofChange fnExactFallDiskSpec)

/-- ITS FALSE NEIGHBOUR: 'it returns false'. Refute it at one input. -/
def fnExactFallDiskWrong : ChangeSpec := { name := "fnExactFallDisk", fn := fun _ => fun
  | [d1, d2] => { results := [.lit (.bool false)], args := [d1, d2] }
  | _ => none }
def FnExactFallDiskWrongFalsely : Prop := fnExactFallDiskRow.holds Try.pinned (OpenSpec.ofChange fnExactFallDiskWrong)

/-- 'laws.FnExactRotBit': WHATEVER THE INPUT: true; the input reads as it did. -/
def fnExactRotBitSpec : ChangeSpec := { name := "fnExactRotBit", fn := fun _ => fun
  | [d1, d2, d3] => { results := [.lit (.bool true)], args := [d1, d2, d3] }
  | _ => none }
def fnExactRotBitRow : OpenClaim := { program := "ytmappmboedpgmaq", sum := "2ad337ca2ff6d107b4e1a6368a4fd4956c07363b4a9a6069e1b602e022fe5a69", func := "loop.example/g00241/laws.FnExactRotBit", spec := "fnExactRotBit", unfollowed := true, recurses := true, apart := false }
def FnExactRotBitSaid : Prop := fnExactRotBitRow.holds Try.pinned (OpenSpec.ofChange fnExactRotBitSpec)

/-- ITS FALSE NEIGHBOUR: 'it returns false'. Refute it at one input. -/
def fnExactRotBitWrong : ChangeSpec := { name := "fnExactRotBit", fn := fun _ => fun
  | [d1, d2, d3] => { results := [.lit (.bool false)], args := [d1, d2, d3] }
  | _ => none }
def FnExactRotBitWrongFalsely : Prop := fnExactRotBitRow.holds Try.pinned (OpenSpec.ofChange fnExactRotBitWrong)

/- THE SECOND FORM. 'bulk': how many values and letters a reading holds, each counted each time it is reached (what is shared counts as often as it is met; a slice's spare places count too). A statement '..UptoSaid' is the law's where the arguments, and the package variables that the reading takes, are together of bulk at most 1048576: NARROWER than '..Said'. Prove '..Said' where nothing that the law and all that it calls make is longer than what came in: it says more and counts as full. Else prove '..UptoSaid'. A law counts once. -/
mutual
def uptoBulk {H : Type} : DataW H → Nat
  | .lit (.string bytes) => bytes.length + 1
  | .lit _ => 1
  | .nil => 1
  | .ptr d => uptoBulk d + 1
  | .slice elems spare => uptoBulkAll elems + uptoBulkAll spare + 1
  | .agg parts => uptoBulkAll parts + 1
  | .iface _ d => uptoBulk d + 1
  | .map entries => uptoBulkEntries entries + 1
  | .held _ => 1
def uptoBulkAll {H : Type} : List (DataW H) → Nat
  | [] => 0
  | d :: r => uptoBulk d + uptoBulkAll r
def uptoBulkEntries {H : Type} : List (Lit × DataW H) → Nat
  | [] => 0
  | x :: r => uptoBulkEntry x + uptoBulkEntries r
def uptoBulkEntry {H : Type} : Lit × DataW H → Nat
  | (.string bytes, d) => bytes.length + uptoBulk d + 1
  | (_, d) => uptoBulk d + 1
 end
def uptoSmall : (H : Type) → List (DataW H) → Bool := fun _ ds => decide (uptoBulkAll ds ≤ 1048576)
def OpenSpec.upto (s : _root_.Go.ChangeSpec) : _root_.Go.OpenSpec := { _root_.Go.OpenSpec.ofChange s with cond := some uptoSmall }

/-- 'laws.FnExactRemoveName', WHERE WHAT IT READS IS OF BULK AT MOST 1048576: true; the input reads as it did. -/
def fnExactRemoveNameUptoRow : OpenClaim := { program := "ytmappmboedpgmaq", sum := "2ad337ca2ff6d107b4e1a6368a4fd4956c07363b4a9a6069e1b602e022fe5a69", func := "loop.example/g00241/laws.FnExactRemoveName", spec := "fnExactRemoveName", unfollowed := true, recurses := true, apart := false, narrowed := true }
def FnExactRemoveNameUptoSaid : Prop := fnExactRemoveNameUptoRow.holds Try.pinned (OpenSpec.upto fnExactRemoveNameSpec)

/-- 'laws.FnExactSyncName', WHERE WHAT IT READS IS OF BULK AT MOST 1048576: true; the input reads as it did. -/
def fnExactSyncNameUptoRow : OpenClaim := { program := "ytmappmboedpgmaq", sum := "2ad337ca2ff6d107b4e1a6368a4fd4956c07363b4a9a6069e1b602e022fe5a69", func := "loop.example/g00241/laws.FnExactSyncName", spec := "fnExactSyncName", unfollowed := true, recurses := true, apart := false, narrowed := true }
def FnExactSyncNameUptoSaid : Prop := fnExactSyncNameUptoRow.holds Try.pinned (OpenSpec.upto fnExactSyncNameSpec)

/-- 'laws.FnExactFallDisk', WHERE WHAT IT READS IS OF BULK AT MOST 1048576: true; the input reads as it did. -/
def fnExactFallDiskUptoRow : OpenClaim := { program := "ytmappmboedpgmaq", sum := "2ad337ca2ff6d107b4e1a6368a4fd4956c07363b4a9a6069e1b602e022fe5a69", func := "loop.example/g00241/laws.FnExactFallDisk", spec := "fnExactFallDisk", unfollowed := true, recurses := true, apart := false, narrowed := true }
def FnExactFallDiskUptoSaid : Prop := fnExactFallDiskUptoRow.holds Try.pinned (OpenSpec.upto fnExactFallDiskSpec)

/-- 'laws.FnExactRotBit', WHERE WHAT IT READS IS OF BULK AT MOST 1048576: true; the input reads as it did. -/
def fnExactRotBitUptoRow : OpenClaim := { program := "ytmappmboedpgmaq", sum := "2ad337ca2ff6d107b4e1a6368a4fd4956c07363b4a9a6069e1b602e022fe5a69", func := "loop.example/g00241/laws.FnExactRotBit", spec := "fnExactRotBit", unfollowed := true, recurses := true, apart := false, narrowed := true }
def FnExactRotBitUptoSaid : Prop := fnExactRotBitUptoRow.holds Try.pinned (OpenSpec.upto fnExactRotBitSpec)

end Rows
end Go.Proofs.Ytmappmboedpgmaq
