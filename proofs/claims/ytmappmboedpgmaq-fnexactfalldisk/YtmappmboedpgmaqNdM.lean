/- Lists of named bytes: which are right, where a name stands, what is put and cut. Plain facts. -/
import Derived.Test.YtmappmboedpgmaqNmM
namespace Go.Proofs.Ytmappmboedpgmaq.Wk
set_option linter.unusedVariables false

/-- a name and its bytes -/
abbrev Nd := ByteArray × List UInt8
/-- the texts' order: byte by byte -/
def ltB (a b : List UInt8) : Bool := decide (a.map UInt8.toNat < b.map UInt8.toNat)
def ndOk (x : Nd) : Bool := Nm.name x.1.data.toList && decide (x.2.length ≤ 400)
/-- where the name stands first -/
def ndAt (l : List Nd) (s : ByteArray) : Option Nat := l.findIdx? fun x => decide (x.1 = s)
/-- all but those of this name -/
def ndCut (l : List Nd) (s : ByteArray) : List Nd := l.filter fun x => decide (¬ x.1 = s)
end Go.Proofs.Ytmappmboedpgmaq.Wk
