/-
  No cell of these rows narrows 'for every input' (looked for: loops, veiled, ifaces, maps, wideKeys, modest, calm, conditions, laid).
  DERIVED. THE GIVEN ROWS OF THIS SEAT. 6 by the template 'for every input the law returns true; each argument reads behind the call as it read before'; 0 by the template 'total and deterministic' (their statements: YtcejeiakgmamdacTotals.lean).
  GIVEN WITH THE SEED: the statements are not yours to turn. If you find one false, say at which input.
  Laid BY PROGRAM, IN A SANDBOX (cutbox-rows.mjs): the forced cells as the released guide's own fill.sh prints them over the translation bdd1b04cfc1adcc6… (all of the seat's roots in one cut). By AI agents, Wed Nov 11 2026. No macro, syntax, notation, axiom, sorry.
-/
import Derived.Test.YtcejeiakgmamdacChecked
import GoSem.Claim
import GoSem.ClaimJoined
import GoSem.ClaimMapViews
import Derived.JoinedTies
import Derived.KernelRfl
namespace Go.Proofs.Ytcejeiakgmamdac
/- THE CELL 'sum', in the pinned program and in every row, IS THE sha256 OF THE DUMP (.gsa) THAT YtcejeiakgmamdacProg.lean LOADS. Nothing in Lean hashes anything: it is a label: what it is worth is what the hold of that sum in a sandbox is worth. -/
noncomputable def Try.pinned : Pinned := { name := "ytcejeiakgmamdac", sum := "bdd1b04cfc1adcc6f5bfed3f5db289ef629b2094c41e7f7780c26dd57aa551f9", checked := Try.checked }
namespace Rows
def none {H : Type} : Left H := { results := [], args := [] }

/-- 'laws.FnRings': WHATEVER THE INPUT: true; the input reads as it did. -/
def fnRingsSpec : ChangeSpec := { name := "fnRings", fn := fun _ => fun
  | [d] => { results := [.lit (.bool true)], args := [d] }
  | _ => none }
def fnRingsRow : OpenClaim := { program := "ytcejeiakgmamdac", sum := "bdd1b04cfc1adcc6f5bfed3f5db289ef629b2094c41e7f7780c26dd57aa551f9", func := "loop.example/g00241/laws.FnRings", spec := "fnRings", unfollowed := true, recurses := true, apart := false }
def FnRingsSaid : Prop := fnRingsRow.holds Try.pinned (OpenSpec.ofChange fnRingsSpec)

/-- ITS FALSE NEIGHBOUR: 'it returns false'. Refute it at one input. -/
def fnRingsWrong : ChangeSpec := { name := "fnRings", fn := fun _ => fun
  | [d] => { results := [.lit (.bool false)], args := [d] }
  | _ => none }
def FnRingsWrongFalsely : Prop := fnRingsRow.holds Try.pinned (OpenSpec.ofChange fnRingsWrong)

/-- 'laws.FnEven': WHATEVER THE INPUT: true; the input reads as it did. -/
def fnEvenSpec : ChangeSpec := { name := "fnEven", fn := fun _ => fun
  | [d] => { results := [.lit (.bool true)], args := [d] }
  | _ => none }
def fnEvenRow : OpenClaim := { program := "ytcejeiakgmamdac", sum := "bdd1b04cfc1adcc6f5bfed3f5db289ef629b2094c41e7f7780c26dd57aa551f9", func := "loop.example/g00241/laws.FnEven", spec := "fnEven", apart := false }
def FnEvenSaid : Prop := fnEvenRow.holds Try.pinned (OpenSpec.ofChange fnEvenSpec)

/-- ITS FALSE NEIGHBOUR: 'it returns false'. Refute it at one input. -/
def fnEvenWrong : ChangeSpec := { name := "fnEven", fn := fun _ => fun
  | [d] => { results := [.lit (.bool false)], args := [d] }
  | _ => none }
def FnEvenWrongFalsely : Prop := fnEvenRow.holds Try.pinned (OpenSpec.ofChange fnEvenWrong)

/-- 'laws.FnBest': WHATEVER THE INPUT: true; the input reads as it did. -/
def fnBestSpec : ChangeSpec := { name := "fnBest", fn := fun _ => fun
  | [d] => { results := [.lit (.bool true)], args := [d] }
  | _ => none }
def fnBestRow : OpenClaim := { program := "ytcejeiakgmamdac", sum := "bdd1b04cfc1adcc6f5bfed3f5db289ef629b2094c41e7f7780c26dd57aa551f9", func := "loop.example/g00241/laws.FnBest", spec := "fnBest", apart := false }
def FnBestSaid : Prop := fnBestRow.holds Try.pinned (OpenSpec.ofChange fnBestSpec)

/-- ITS FALSE NEIGHBOUR: 'it returns false'. Refute it at one input. -/
def fnBestWrong : ChangeSpec := { name := "fnBest", fn := fun _ => fun
  | [d] => { results := [.lit (.bool false)], args := [d] }
  | _ => none }
def FnBestWrongFalsely : Prop := fnBestRow.holds Try.pinned (OpenSpec.ofChange fnBestWrong)

/-- 'laws.FnRebalanced': WHATEVER THE INPUT: true; the input reads as it did. -/
def fnRebalancedSpec : ChangeSpec := { name := "fnRebalanced", fn := fun _ => fun
  | [d] => { results := [.lit (.bool true)], args := [d] }
  | _ => none }
def fnRebalancedRow : OpenClaim := { program := "ytcejeiakgmamdac", sum := "bdd1b04cfc1adcc6f5bfed3f5db289ef629b2094c41e7f7780c26dd57aa551f9", func := "loop.example/g00241/laws.FnRebalanced", spec := "fnRebalanced", unfollowed := true, recurses := true, apart := false }
def FnRebalancedSaid : Prop := fnRebalancedRow.holds Try.pinned (OpenSpec.ofChange fnRebalancedSpec)

/-- ITS FALSE NEIGHBOUR: 'it returns false'. Refute it at one input. -/
def fnRebalancedWrong : ChangeSpec := { name := "fnRebalanced", fn := fun _ => fun
  | [d] => { results := [.lit (.bool false)], args := [d] }
  | _ => none }
def FnRebalancedWrongFalsely : Prop := fnRebalancedRow.holds Try.pinned (OpenSpec.ofChange fnRebalancedWrong)

/-- 'laws.FnStaying': WHATEVER THE INPUT: true; the input reads as it did. -/
def fnStayingSpec : ChangeSpec := { name := "fnStaying", fn := fun _ => fun
  | [d] => { results := [.lit (.bool true)], args := [d] }
  | _ => none }
def fnStayingRow : OpenClaim := { program := "ytcejeiakgmamdac", sum := "bdd1b04cfc1adcc6f5bfed3f5db289ef629b2094c41e7f7780c26dd57aa551f9", func := "loop.example/g00241/laws.FnStaying", spec := "fnStaying", unfollowed := true, recurses := true, apart := false }
def FnStayingSaid : Prop := fnStayingRow.holds Try.pinned (OpenSpec.ofChange fnStayingSpec)

/-- ITS FALSE NEIGHBOUR: 'it returns false'. Refute it at one input. -/
def fnStayingWrong : ChangeSpec := { name := "fnStaying", fn := fun _ => fun
  | [d] => { results := [.lit (.bool false)], args := [d] }
  | _ => none }
def FnStayingWrongFalsely : Prop := fnStayingRow.holds Try.pinned (OpenSpec.ofChange fnStayingWrong)

/-- 'laws.FnPlaces': WHATEVER THE INPUT: true; the input reads as it did. -/
def fnPlacesSpec : ChangeSpec := { name := "fnPlaces", fn := fun _ => fun
  | [d] => { results := [.lit (.bool true)], args := [d] }
  | _ => none }
def fnPlacesRow : OpenClaim := { program := "ytcejeiakgmamdac", sum := "bdd1b04cfc1adcc6f5bfed3f5db289ef629b2094c41e7f7780c26dd57aa551f9", func := "loop.example/g00241/laws.FnPlaces", spec := "fnPlaces", unfollowed := true, recurses := true, apart := false }
def FnPlacesSaid : Prop := fnPlacesRow.holds Try.pinned (OpenSpec.ofChange fnPlacesSpec)

/-- ITS FALSE NEIGHBOUR: 'it returns false'. Refute it at one input. -/
def fnPlacesWrong : ChangeSpec := { name := "fnPlaces", fn := fun _ => fun
  | [d] => { results := [.lit (.bool false)], args := [d] }
  | _ => none }
def FnPlacesWrongFalsely : Prop := fnPlacesRow.holds Try.pinned (OpenSpec.ofChange fnPlacesWrong)

/- THE SECOND FORM. 'bulk': how many values and letters a reading holds, each counted each time it is reached (what is shared counts as often as it is met; a slice's spare places count too). A statement '..UptoSaid' is the law's where the arguments, and the package variables that the reading takes, are together of bulk at most 1048576: NARROWER than '..Said'. Prove '..Said' where nothing that the law and all that it calls make is longer than what came in: it says more and counts as full. Else prove '..UptoSaid'. A law counts once. -/
mutual
def uptoBulk {H : Type} : DataW H → Nat
  | .lit (.string bytes) => bytes.length + 1
  | .lit _ => 1
  | .nil => 1
  | .ptr d => uptoBulk d + 1
  | .slice elems spare => uptoBulkAll elems + uptoBulkAll spare + 1
  | .agg parts => uptoBulkAll parts + 1
  | .iface _ d => uptoBulk d + 1
  | .map entries => uptoBulkEntries entries + 1
  | .held _ => 1
def uptoBulkAll {H : Type} : List (DataW H) → Nat
  | [] => 0
  | d :: r => uptoBulk d + uptoBulkAll r
def uptoBulkEntries {H : Type} : List (Lit × DataW H) → Nat
  | [] => 0
  | x :: r => uptoBulkEntry x + uptoBulkEntries r
def uptoBulkEntry {H : Type} : Lit × DataW H → Nat
  | (.string bytes, d) => bytes.length + uptoBulk d + 1
  | (_, d) => uptoBulk d + 1
 end
def uptoSmall : (H : Type) → List (DataW H) → Bool := fun _ ds => decide (uptoBulkAll ds ≤ 1048576)
def OpenSpec.upto (s : _root_.Go.ChangeSpec) : _root_.Go.OpenSpec := { _root_.Go.OpenSpec.ofChange s with cond := some uptoSmall }

/-- 'laws.FnRings', WHERE WHAT IT READS IS OF BULK AT MOST 1048576: true; the input reads as it did. -/
def fnRingsUptoRow : OpenClaim := { program := "ytcejeiakgmamdac", sum := "bdd1b04cfc1adcc6f5bfed3f5db289ef629b2094c41e7f7780c26dd57aa551f9", func := "loop.example/g00241/laws.FnRings", spec := "fnRings", unfollowed := true, recurses := true, apart := false, narrowed := true }
def FnRingsUptoSaid : Prop := fnRingsUptoRow.holds Try.pinned (OpenSpec.upto fnRingsSpec)

/-- 'laws.FnEven', WHERE WHAT IT READS IS OF BULK AT MOST 1048576: true; the input reads as it did. -/
def fnEvenUptoRow : OpenClaim := { program := "ytcejeiakgmamdac", sum := "bdd1b04cfc1adcc6f5bfed3f5db289ef629b2094c41e7f7780c26dd57aa551f9", func := "loop.example/g00241/laws.FnEven", spec := "fnEven", apart := false, narrowed := true }
def FnEvenUptoSaid : Prop := fnEvenUptoRow.holds Try.pinned (OpenSpec.upto fnEvenSpec)

/-- 'laws.FnBest', WHERE WHAT IT READS IS OF BULK AT MOST 1048576: true; the input reads as it did. -/
def fnBestUptoRow : OpenClaim := { program := "ytcejeiakgmamdac", sum := "bdd1b04cfc1adcc6f5bfed3f5db289ef629b2094c41e7f7780c26dd57aa551f9", func := "loop.example/g00241/laws.FnBest", spec := "fnBest", apart := false, narrowed := true }
def FnBestUptoSaid : Prop := fnBestUptoRow.holds Try.pinned (OpenSpec.upto fnBestSpec)

/-- 'laws.FnRebalanced', WHERE WHAT IT READS IS OF BULK AT MOST 1048576: true; the input reads as it did. -/
def fnRebalancedUptoRow : OpenClaim := { program := "ytcejeiakgmamdac", sum := "bdd1b04cfc1adcc6f5bfed3f5db289ef629b2094c41e7f7780c26dd57aa551f9", func := "loop.example/g00241/laws.FnRebalanced", spec := "fnRebalanced", unfollowed := true, recurses := true, apart := false, narrowed := true }
def FnRebalancedUptoSaid : Prop := fnRebalancedUptoRow.holds Try.pinned (OpenSpec.upto fnRebalancedSpec)

/-- 'laws.FnStaying', WHERE WHAT IT READS IS OF BULK AT MOST 1048576: true; the input reads as it did. -/
def fnStayingUptoRow : OpenClaim := { program := "ytcejeiakgmamdac", sum := "bdd1b04cfc1adcc6f5bfed3f5db289ef629b2094c41e7f7780c26dd57aa551f9", func := "loop.example/g00241/laws.FnStaying", spec := "fnStaying", unfollowed := true, recurses := true, apart := false, narrowed := true }
def FnStayingUptoSaid : Prop := fnStayingUptoRow.holds Try.pinned (OpenSpec.upto fnStayingSpec)

/-- 'laws.FnPlaces', WHERE WHAT IT READS IS OF BULK AT MOST 1048576: true; the input reads as it did. -/
def fnPlacesUptoRow : OpenClaim := { program := "ytcejeiakgmamdac", sum := "bdd1b04cfc1adcc6f5bfed3f5db289ef629b2094c41e7f7780c26dd57aa551f9", func := "loop.example/g00241/laws.FnPlaces", spec := "fnPlaces", unfollowed := true, recurses := true, apart := false, narrowed := true }
def FnPlacesUptoSaid : Prop := fnPlacesUptoRow.holds Try.pinned (OpenSpec.upto fnPlacesSpec)

end Rows
end Go.Proofs.Ytcejeiakgmamdac
