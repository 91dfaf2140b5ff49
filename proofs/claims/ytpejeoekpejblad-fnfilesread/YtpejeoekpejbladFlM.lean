/- Files: which are right, their bytes. Plain facts. -/
import Derived.Test.YtpejeoekpejbladBy
import Derived.Test.YtpejeoekpejbladStM
import Derived.Test.YtpejeoekpejbladMath
namespace Go.Proofs.Ytpejeoekpejblad.Wk
set_option linter.unusedVariables false

/-- is a file as told: its stamp, at most 200 bytes, none of one that is dead -/
def fileB (t q n : Int) (d : Bool) (k : Nat) : Bool := Sm.ok t q n && (decide (k ≤ 200) && (!d || decide (k = 0)))
def d01 (d : Bool) : Int := if d then 1 else 0
/-- the bytes ahead of the sum -/
def stampBytes (t q n : Int) : List UInt8 := Mt.enc (Mt.clamp t) ++ Mt.enc (Mt.clamp q) ++ Mt.enc (Mt.clamp n)
def fileBody (t q n : Int) (d : Bool) (data : List UInt8) : List UInt8 := putT (stampBytes t q n ++ Mt.enc (Mt.clamp (d01 d))) ⟨data.toArray⟩
/-- a sum's four bytes, the highest first -/
def crc4 (x : Nat) : List UInt8 := [(x / 16777216).toUInt8, (x / 65536).toUInt8, (x / 256).toUInt8, x.toUInt8]
def fileBytes (t q n : Int) (d : Bool) (data : List UInt8) : List UInt8 := if fileB t q n d data.length = true then fileBody t q n d data ++ crc4 (Mt.crcN (fileBody t q n d data)) else []
end Go.Proofs.Ytpejeoekpejblad.Wk
