/- Plain facts on bits, sums and hashes: nothing of the program is named here. -/
import Derived.Laws.BitsAllLaws
import Derived.RowKit
namespace Go.Proofs.Ytmappmboedpgmaq.Mt
open Go.RowKit

theorem wrap_i64 (n : Int) (h0 : -9223372036854775808 ≤ n) (h1 : n < 9223372036854775808) : IntKind.i64.wrap n = n := by
  simp only [IntKind.wrap, IntKind.bits, IntKind.signed]
  simp
  omega

theorem ofInt_i64 (a : Nat) (ha : a < 9223372036854775808) : (BitVec.ofInt 64 (a : Int)).toNat = a := by
  rw [BitVec.ofInt_natCast, BitVec.toNat_ofNat]; exact Nat.mod_eq_of_lt (by omega)

theorem i64_and (a b : Nat) (ha : a < 9223372036854775808) (hb : b < 9223372036854775808) : bits .and .i64 (a : Int) (b : Int) = ((a &&& b : Nat) : Int) := by
  have hx : a &&& b < 2 ^ 63 := Nat.and_lt_two_pow _ (by omega)
  show IntKind.i64.wrap ((BitVec.ofInt 64 (a : Int) &&& BitVec.ofInt 64 (b : Int)).toNat : Int) = _
  rw [BitVec.toNat_and, ofInt_i64 a ha, ofInt_i64 b hb, wrap_i64 _ (by omega) (by omega)]

theorem i64_or (a b : Nat) (ha : a < 9223372036854775808) (hb : b < 9223372036854775808) : bits .or .i64 (a : Int) (b : Int) = ((a ||| b : Nat) : Int) := by
  have hx : a ||| b < 2 ^ 63 := Nat.or_lt_two_pow (by omega) (by omega)
  show IntKind.i64.wrap ((BitVec.ofInt 64 (a : Int) ||| BitVec.ofInt 64 (b : Int)).toNat : Int) = _
  rw [BitVec.toNat_or, ofInt_i64 a ha, ofInt_i64 b hb, wrap_i64 _ (by omega) (by omega)]

theorem i64_xor (a b : Nat) (ha : a < 9223372036854775808) (hb : b < 9223372036854775808) : bits .xor .i64 (a : Int) (b : Int) = ((a ^^^ b : Nat) : Int) := by
  have hx : a ^^^ b < 2 ^ 63 := Nat.xor_lt_two_pow (by omega) (by omega)
  show IntKind.i64.wrap ((BitVec.ofInt 64 (a : Int) ^^^ BitVec.ofInt 64 (b : Int)).toNat : Int) = _
  rw [BitVec.toNat_xor, ofInt_i64 a ha, ofInt_i64 b hb, wrap_i64 _ (by omega) (by omega)]

theorem wrap64_id (n : Int) (h0 : -9223372036854775808 ≤ n) (h1 : n < 9223372036854775808) : wrap64 n = n := by
  unfold wrap64; omega

theorem take_snoc (s : ByteArray) (k : Nat) (h : k < s.size) : s.data.toList.take (k + 1) = s.data.toList.take k ++ [s[k]] := by
  rw [List.take_succ_eq_append_getElem (by simpa using h)]; rfl

/-! ### the hash -/
def hashStep (h : Nat) (c : UInt8) : Nat := ((h ^^^ c.toNat) * 16777619) % 4294967296
def hashN (l : List UInt8) : Nat := l.foldl hashStep 2166136261

theorem hashStep_lt (h : Nat) (c : UInt8) : hashStep h c < 4294967296 := by unfold hashStep; omega
theorem hashN_snoc (l : List UInt8) (c : UInt8) : hashN (l ++ [c]) = hashStep (hashN l) c := by unfold hashN; rw [List.foldl_append, List.foldl_cons, List.foldl_nil]
theorem foldHash_lt (l : List UInt8) (h : Nat) (hh : h < 4294967296) : l.foldl hashStep h < 4294967296 := by
  induction l generalizing h with
  | nil => exact hh
  | cons c l ih => exact ih _ (hashStep_lt _ _)
theorem hashN_lt (l : List UInt8) : hashN l < 4294967296 := foldHash_lt l _ (by decide)

/-- the step as the specification's text reckons it, over int -/
theorem hash_i64 (h : Nat) (c : UInt8) (hh : h < 4294967296) :
    bits .and .i64 (wrap64 (bits .xor .i64 (h : Int) (wrap64 (c.toNat : Int)) * 16777619)) 4294967295 = ((hashStep h c : Nat) : Int) := by
  have hc : c.toNat < 256 := c.toNat_lt
  have hx : h ^^^ c.toNat < 2 ^ 32 := Nat.xor_lt_two_pow (by omega) (by omega)
  rw [wrap64_id (c.toNat : Int) (by omega) (by omega), i64_xor h c.toNat (by omega) (by omega), wrap64_id _ (by omega) (by omega)]
  have := i64_and ((h ^^^ c.toNat) * 16777619) 4294967295 (by omega) (by omega)
  rw [show (((h ^^^ c.toNat : Nat) : Int) * 16777619) = (((h ^^^ c.toNat) * 16777619 : Nat) : Int) from by omega]
  refine this.trans ?_
  unfold hashStep
  rw [show (4294967295 : Nat) = 2 ^ 32 - 1 from rfl, Nat.and_two_pow_sub_one_eq_mod]

/-- the step as the program's text reckons it, over uint32 -/
theorem hash_u32 (h : Nat) (c : UInt8) (hh : h < 4294967296) :
    (bits .xor .u32 (h : Int) (c.toNat : Int) * 16777619) % 4294967296 = ((hashStep h c : Nat) : Int) := by
  have hc : c.toNat < 256 := c.toNat_lt
  rw [u32_xor_nat h c.toNat hh (by omega)]
  unfold hashStep
  omega

/-! ### the sum -/
def crcBit (x : Nat) : Nat := if x % 2 = 1 then x / 2 ^^^ 2197175160 else x / 2
def crcBits : Nat → Nat → Nat
  | 0, x => x
  | n + 1, x => crcBit (crcBits n x)
def crcStep (x : Nat) (c : UInt8) : Nat := crcBits 8 (x ^^^ c.toNat)
def crcRun (l : List UInt8) : Nat := l.foldl crcStep 4294967295
def crcN (l : List UInt8) : Nat := crcRun l ^^^ 4294967295

theorem xor32_lt (a b : Nat) (ha : a < 4294967296) (hb : b < 4294967296) : a ^^^ b < 4294967296 :=
  show a ^^^ b < 2 ^ 32 from Nat.xor_lt_two_pow ha hb
theorem crcBit_lt (x : Nat) (h : x < 4294967296) : crcBit x < 4294967296 := by
  unfold crcBit; split
  · exact xor32_lt _ _ (by omega) (by omega)
  · omega
theorem crcBits_lt (n x : Nat) (h : x < 4294967296) : crcBits n x < 4294967296 := by
  induction n with
  | zero => exact h
  | succ n ih => exact crcBit_lt _ ih
theorem crcBits_succ (n x : Nat) : crcBits (n + 1) x = crcBit (crcBits n x) := rfl
theorem crcStep_lt (x : Nat) (c : UInt8) (h : x < 4294967296) : crcStep x c < 4294967296 :=
  crcBits_lt _ _ (xor32_lt _ _ h (by have := c.toNat_lt; omega))
theorem foldCrc_lt (l : List UInt8) (h : Nat) (hh : h < 4294967296) : l.foldl crcStep h < 4294967296 := by
  induction l generalizing h with
  | nil => exact hh
  | cons c l ih => exact ih _ (crcStep_lt _ _ hh)
theorem crcRun_lt (l : List UInt8) : crcRun l < 4294967296 := foldCrc_lt l _ (by omega)
theorem crcN_lt (l : List UInt8) : crcN l < 4294967296 := xor32_lt _ _ (crcRun_lt l) (by omega)
theorem crcRun_snoc (l : List UInt8) (c : UInt8) : crcRun (l ++ [c]) = crcStep (crcRun l) c := by unfold crcRun; rw [List.foldl_append, List.foldl_cons, List.foldl_nil]
theorem crcBit_odd (x : Nat) (h : x % 2 = 1) : crcBit x = x / 2 ^^^ 2197175160 := by unfold crcBit; rw [if_pos h]
theorem crcBit_even (x : Nat) (h : x % 2 = 0) : crcBit x = x / 2 := by unfold crcBit; rw [if_neg (by omega)]
theorem and_one_i64 (x : Nat) (h : x < 4294967296) : bits .and .i64 (x : Int) 1 = ((x % 2 : Nat) : Int) := by
  have := i64_and x 1 (by omega) (by omega)
  rw [Nat.and_one_is_mod] at this; exact this
theorem xorTurn_i64 (y : Nat) (h : y < 4294967296) : bits .xor .i64 ((y : Int) / 2) 2197175160 = ((y / 2 ^^^ 2197175160 : Nat) : Int) := by
  have := i64_xor (y / 2) 2197175160 (by omega) (by omega)
  rw [show (((y / 2 : Nat) : Int)) = (y : Int) / 2 from by omega] at this; exact this
theorem xorAll_i64 (y : Nat) (h : y < 4294967296) : bits .xor .i64 (y : Int) 4294967295 = ((y ^^^ 4294967295 : Nat) : Int) := i64_xor y 4294967295 (by omega) (by omega)
theorem xorTurn_u32 (y : Nat) (h : y < 4294967296) : bits .xor .u32 ((y : Int) / 2) 2197175160 = ((y / 2 ^^^ 2197175160 : Nat) : Int) := by
  have := u32_xor_nat (y / 2) 2197175160 (by omega) (by omega)
  rw [show (((y / 2 : Nat) : Int)) = (y : Int) / 2 from by omega] at this; exact this
theorem notAll_u32 (y : Nat) (h : y < 4294967296) : wrap64 (bits .xor .u32 IntKind.u32.max (y : Int)) = ((y ^^^ 4294967295 : Nat) : Int) := by
  have e : IntKind.u32.max = ((4294967295 : Nat) : Int) := by decide
  have hx := xor32_lt 4294967295 y (by omega) h
  rw [e, u32_xor_nat 4294967295 y (by omega) h, wrap64_id _ (by omega) (by omega), Nat.xor_comm]
end Go.Proofs.Ytmappmboedpgmaq.Mt
