/- With one byte turned the sum and the hash are others: plain facts, nothing of the program is named here. -/
import Derived.Test.YtpejeoekpejbladMath
namespace Go.Proofs.Ytpejeoekpejblad.Mt

/-! ### the hash -/
theorem mul_inj (a b : Nat) (ha : a < 4294967296) (hb : b < 4294967296) (h : a * 16777619 % 4294967296 = b * 16777619 % 4294967296) : a = b := by
  have e : ∀ x : Nat, x < 4294967296 → x * 16777619 % 4294967296 * 899433627 % 4294967296 = x := by
    intro x hx
    rw [Nat.mod_mul_mod, Nat.mul_assoc, show 16777619 * 899433627 = 1 + 3513497 * 4294967296 from by decide, Nat.mul_add, Nat.mul_one, ← Nat.mul_assoc, Nat.add_mul_mod_self_right, Nat.mod_eq_of_lt hx]
  rw [← e a ha, ← e b hb, h]
theorem xor_ne_left (a b c : Nat) (h : a ≠ b) : a ^^^ c ≠ b ^^^ c := fun e => h (by
  have := congrArg (· ^^^ c) e
  simpa [Nat.xor_assoc, Nat.xor_self, Nat.xor_zero] using this)
theorem xor_ne_right (a b c : Nat) (h : a ≠ b) : c ^^^ a ≠ c ^^^ b := by
  rw [Nat.xor_comm c a, Nat.xor_comm c b]; exact xor_ne_left a b c h
theorem byte_xor_lt (h : Nat) (c : UInt8) (hh : h < 4294967296) : h ^^^ c.toNat < 4294967296 := xor32_lt _ _ hh (by have := c.toNat_lt; omega)
theorem hashStep_left (a b : Nat) (c : UInt8) (ha : a < 4294967296) (hb : b < 4294967296) (h : a ≠ b) : hashStep a c ≠ hashStep b c := fun e =>
  xor_ne_left a b c.toNat h (mul_inj _ _ (byte_xor_lt a c ha) (byte_xor_lt b c hb) e)
theorem hashStep_right (a : Nat) (c d : UInt8) (ha : a < 4294967296) (h : c ≠ d) : hashStep a c ≠ hashStep a d := fun e =>
  xor_ne_right c.toNat d.toNat a (fun e' => h (UInt8.toNat_inj.1 e')) (mul_inj _ _ (byte_xor_lt a c ha) (byte_xor_lt a d ha) e)
theorem foldHash_ne (l : List UInt8) : ∀ (a b : Nat), a < 4294967296 → b < 4294967296 → a ≠ b → l.foldl hashStep a ≠ l.foldl hashStep b := by
  induction l with
  | nil => intro a b _ _ h; exact h
  | cons c l ih => intro a b ha hb h; exact ih _ _ (hashStep_lt _ _) (hashStep_lt _ _) (hashStep_left a b c ha hb h)

/-! ### the sum -/
theorem top_false (x : Nat) (h : x < 4294967296) : (x / 2).testBit 31 = false := Nat.testBit_lt_two_pow (by omega)
theorem crcBit_inj (x y : Nat) (hx : x < 4294967296) (hy : y < 4294967296) (h : crcBit x = crcBit y) : x = y := by
  have tp : (2197175160 : Nat).testBit 31 = true := by decide
  rcases Nat.mod_two_eq_zero_or_one x with px | px <;> rcases Nat.mod_two_eq_zero_or_one y with py | py
  · rw [crcBit_even x px, crcBit_even y py] at h; omega
  · rw [crcBit_even x px, crcBit_odd y py] at h
    have := congrArg (fun z => Nat.testBit z 31) h
    simp only [Nat.testBit_xor, top_false x hx, top_false y hy, tp] at this
    simp at this
  · rw [crcBit_odd x px, crcBit_even y py] at h
    have := congrArg (fun z => Nat.testBit z 31) h
    simp only [Nat.testBit_xor, top_false x hx, top_false y hy, tp] at this
    simp at this
  · rw [crcBit_odd x px, crcBit_odd y py] at h
    have : x / 2 = y / 2 := by
      by_cases e : x / 2 = y / 2
      · exact e
      · exact absurd h (xor_ne_left _ _ _ e)
    omega
theorem crcBits_inj (n x y : Nat) (hx : x < 4294967296) (hy : y < 4294967296) (h : crcBits n x = crcBits n y) : x = y := by
  induction n with
  | zero => exact h
  | succ n ih => exact ih (crcBit_inj _ _ (crcBits_lt n x hx) (crcBits_lt n y hy) h)
theorem crcStep_left (a b : Nat) (c : UInt8) (ha : a < 4294967296) (hb : b < 4294967296) (h : a ≠ b) : crcStep a c ≠ crcStep b c := fun e =>
  xor_ne_left a b c.toNat h (crcBits_inj 8 _ _ (byte_xor_lt a c ha) (byte_xor_lt b c hb) e)
theorem crcStep_right (a : Nat) (c d : UInt8) (ha : a < 4294967296) (h : c ≠ d) : crcStep a c ≠ crcStep a d := fun e =>
  xor_ne_right c.toNat d.toNat a (fun e' => h (UInt8.toNat_inj.1 e')) (crcBits_inj 8 _ _ (byte_xor_lt a c ha) (byte_xor_lt a d ha) e)
theorem foldCrc_ne (l : List UInt8) : ∀ (a b : Nat), a < 4294967296 → b < 4294967296 → a ≠ b → l.foldl crcStep a ≠ l.foldl crcStep b := by
  induction l with
  | nil => intro a b _ _ h; exact h
  | cons c l ih => intro a b ha hb h; exact ih _ _ (crcStep_lt _ _ ha) (crcStep_lt _ _ hb) (crcStep_left a b c ha hb h)

/-! ### one byte of a list turned -/
theorem split_set (l : List UInt8) (k : Nat) (h : k < l.length) (y : UInt8) : l = l.take k ++ l[k] :: l.drop (k + 1) ∧ l.set k y = l.take k ++ y :: l.drop (k + 1) := by
  constructor
  · rw [← List.drop_eq_getElem_cons h, List.take_append_drop]
  · rw [List.set_eq_take_append_cons_drop, if_pos h]
theorem hashN_set (l : List UInt8) (k : Nat) (h : k < l.length) (y : UInt8) (hy : y ≠ l[k]) : hashN (l.set k y) ≠ hashN l := by
  obtain ⟨e1, e2⟩ := split_set l k h y
  have hs := hashN_lt (l.take k)
  have a1 : hashN l = (l.drop (k + 1)).foldl hashStep (hashStep (hashN (l.take k)) l[k]) := by
    conv => lhs; rw [e1]
    unfold hashN; rw [List.foldl_append, List.foldl_cons]
  have a2 : hashN (l.set k y) = (l.drop (k + 1)).foldl hashStep (hashStep (hashN (l.take k)) y) := by
    rw [e2]; unfold hashN; rw [List.foldl_append, List.foldl_cons]
  rw [a1, a2]
  exact foldHash_ne _ _ _ (hashStep_lt _ _) (hashStep_lt _ _) (hashStep_right _ _ _ hs hy)
theorem crcN_set (l : List UInt8) (k : Nat) (h : k < l.length) (y : UInt8) (hy : y ≠ l[k]) : crcN l ≠ crcN (l.set k y) := by
  obtain ⟨e1, e2⟩ := split_set l k h y
  have hs := crcRun_lt (l.take k)
  have a1 : crcRun l = (l.drop (k + 1)).foldl crcStep (crcStep (crcRun (l.take k)) l[k]) := by
    conv => lhs; rw [e1]
    unfold crcRun; rw [List.foldl_append, List.foldl_cons]
  have a2 : crcRun (l.set k y) = (l.drop (k + 1)).foldl crcStep (crcStep (crcRun (l.take k)) y) := by
    rw [e2]; unfold crcRun; rw [List.foldl_append, List.foldl_cons]
  refine xor_ne_left _ _ _ ?_
  rw [a1, a2]
  exact foldCrc_ne _ _ _ (crcStep_lt _ _ hs) (crcStep_lt _ _ hs) (crcStep_right _ _ _ hs (fun e => hy e.symm))

/-- one bit of a byte turned, as the law's text reckons it -/
theorem turned (c : UInt8) (a : Int) (h0 : 0 ≤ a) (h1 : a ≤ 255) :
    ∃ y : UInt8, bits .xor .u8 (c.toNat : Int) (IntKind.u8.wrap (2 ^ min (IntKind.u64.wrap (a.tmod 8)).toNat 8)) = (y.toNat : Int) ∧ y ≠ c := by
  obtain ⟨n, rfl⟩ := Int.eq_ofNat_of_zero_le h0
  have hc : c.toNat < 256 := c.toNat_lt
  have e1 : ((n : Int).tmod 8) = ((n % 8 : Nat) : Int) := by rw [Int.tmod_eq_emod_of_nonneg h0]; omega
  have e2 : IntKind.u64.wrap ((n % 8 : Nat) : Int) = ((n % 8 : Nat) : Int) := by simp [IntKind.wrap, IntKind.bits, IntKind.signed]; omega
  rw [e1, e2, Int.toNat_natCast, Nat.min_eq_left (by omega)]
  have hp : 2 ^ (n % 8) < 256 := Nat.lt_of_le_of_lt (Nat.pow_le_pow_right (by decide) (show n % 8 ≤ 7 by omega)) (by decide)
  have hp0 : 0 < 2 ^ (n % 8) := Nat.pow_pos (by decide)
  have e3 : IntKind.u8.wrap ((2 : Int) ^ (n % 8)) = ((2 ^ (n % 8) : Nat) : Int) := by
    rw [IntKind.wrap_u8', show ((2 : Int) ^ (n % 8)) = ((2 ^ (n % 8) : Nat) : Int) from by rw [Int.natCast_pow]; rfl]; omega
  rw [e3, u8_xor_nat c.toNat _ hc hp]
  have hx : c.toNat ^^^ 2 ^ (n % 8) < 2 ^ 8 := Nat.xor_lt_two_pow hc hp
  have ht : (UInt8.ofNat (c.toNat ^^^ 2 ^ (n % 8))).toNat = c.toNat ^^^ 2 ^ (n % 8) := by
    rw [UInt8.toNat_ofNat']; exact Nat.mod_eq_of_lt hx
  refine ⟨UInt8.ofNat (c.toNat ^^^ 2 ^ (n % 8)), by rw [ht], ?_⟩
  intro e
  have h2 := congrArg UInt8.toNat e
  rw [ht] at h2
  have h3 := xor_ne_right (2 ^ (n % 8)) 0 c.toNat (by omega)
  rw [Nat.xor_zero] at h3
  exact h3 h2
end Go.Proofs.Ytpejeoekpejblad.Mt
