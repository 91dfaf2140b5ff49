/- A file that is read of bytes: plain facts; a right file comes back of its bytes. -/
import Derived.Test.YtpejeoekpejbladFlM
import Derived.Test.YtpejeoekpejbladBackM
namespace Go.Proofs.Ytpejeoekpejblad.Wk
set_option linter.unusedVariables false

/-- a number that is read, as its parts -/
def nv : Option (Nat × Nat) → Int
  | some (n, _) => n
  | none => 0
def np : Option (Nat × Nat) → Int
  | some (_, k) => k
  | none => 0
theorem numV_eq (o : Option (Nat × Nat)) : numV o = .tuple #[.int .i64 (nv o), .int .i64 (np o), .bool o.isSome] := by
  cases o <;> rfl
/-- a text that is read, as its parts -/
def tv : Option (List UInt8 × Nat) → List UInt8
  | some (t, _) => t
  | none => []
def tp : Option (List UInt8 × Nat) → Int
  | some (_, k) => k
  | none => 0
theorem textV_eq (o : Option (List UInt8 × Nat)) : textV o = .tuple #[.string ⟨(tv o).toArray⟩, .int .i64 (tp o), .bool o.isSome] := by
  cases o <;> rfl
theorem tp_le (l : List UInt8) (p : Int) : 0 ≤ tp (Mt.getText l p) ∧ tp (Mt.getText l p) ≤ l.length ∧ (tv (Mt.getText l p)).length ≤ l.length := by
  cases h : Mt.getNum l p with
  | none => rw [Mt.getText_none l p h]; simp [tp, tv]
  | some x =>
    obtain ⟨n, k⟩ := x
    have := Mt.getNum_le l p n k h
    by_cases hn : n ≤ l.length - k
    · rw [Mt.getText_good l p n k h hn]
      simp only [tp, tv, List.length_take, List.length_drop]
      omega
    · rw [Mt.getText_bad l p n k h hn]; simp [tp, tv]

/-- the parts of a file that is read -/
def gS1 (l : List UInt8) := Mt.getNum l 0
def gS2 (l : List UInt8) := Mt.getNum l (np (gS1 l))
def gS3 (l : List UInt8) := Mt.getNum l (np (gS2 l))
def gOk (l : List UInt8) : Bool := (gS1 l).isSome && ((gS2 l).isSome && (gS3 l).isSome)
def gD (l : List UInt8) := Mt.getNum l (np (gS3 l))
def gX (l : List UInt8) := Mt.getText l (np (gD l))
def gGood (l : List UInt8) : Bool := gOk l && ((gD l).isSome && ((gX l).isSome && (decide (nv (gD l) ≤ 1) && decide (tp (gX l) + 4 = l.length))))
def gDead (l : List UInt8) : Bool := decide (nv (gD l) = 1)
def gRight (l : List UInt8) : Bool := fileB (nv (gS1 l)) (nv (gS2 l)) (nv (gS3 l)) (gDead l) (tv (gX l)).length && decide (fileBytes (nv (gS1 l)) (nv (gS2 l)) (nv (gS3 l)) (gDead l) (tv (gX l)) = l)
/-- a file -/
abbrev Fl := Int × Int × Int × Bool × List UInt8
def getF (l : List UInt8) : Option Fl := if gGood l && gRight l then some (nv (gS1 l), nv (gS2 l), nv (gS3 l), gDead l, tv (gX l)) else none

theorem getText_mid (l t u : List UInt8) (N : Nat) (h : N ≤ 1000000000) (ht : t.length = N) : Mt.getText (l ++ Mt.enc N ++ t ++ u) (l.length : Int) = some (t, (l ++ Mt.enc N ++ t).length) := by
  have e : l ++ Mt.enc N ++ t ++ u = l ++ Mt.enc N ++ (t ++ u) := by rw [List.append_assoc]
  rw [e, Mt.getText_good _ _ _ _ (Mt.getNum_enc l (t ++ u) N h) (by simp only [List.length_append]; omega), List.drop_left, List.take_left' ht]
  simp only [List.length_append, ht]
theorem getF_back (t q n : Int) (d : Bool) (data : List UInt8) (h : fileB t q n d data.length = true) : getF (fileBytes t q n d data) = some (t, q, n, d, data) := by
  have hF := h
  unfold fileB at h
  simp only [Bool.and_eq_true, decide_eq_true_eq] at h
  obtain ⟨hs, hk, hd⟩ := h
  obtain ⟨⟨t0, t1⟩, ⟨q0, q1⟩, n0, n1⟩ := Sm.ok_true hs
  have c1 : ((Mt.clamp t : Nat) : Int) = t ∧ Mt.clamp t ≤ 1000000000 := by rcases Mt.clamp3 t with h | h | h <;> omega
  have c2 : ((Mt.clamp q : Nat) : Int) = q ∧ Mt.clamp q ≤ 1000000000 := by rcases Mt.clamp3 q with h | h | h <;> omega
  have c3 : ((Mt.clamp n : Nat) : Int) = n ∧ Mt.clamp n ≤ 1000000000 := by rcases Mt.clamp3 n with h | h | h <;> omega
  have c4 : ((Mt.clamp (d01 d) : Nat) : Int) = d01 d ∧ Mt.clamp (d01 d) ≤ 1000000000 := by cases d <;> exact ⟨rfl, by decide⟩
  have c5 : Mt.clamp (data.length : Int) = data.length := by rcases Mt.clamp3 (data.length : Int) with h | h | h <;> omega
  obtain ⟨X, hX⟩ : ∃ X, crc4 (Mt.crcN (fileBody t q n d data)) = X := ⟨_, rfl⟩
  have hX4 : X.length = 4 := by rw [← hX]; rfl
  have e : fileBytes t q n d data = ((((Mt.enc (Mt.clamp t) ++ Mt.enc (Mt.clamp q)) ++ Mt.enc (Mt.clamp n)) ++ Mt.enc (Mt.clamp (d01 d))) ++ Mt.enc data.length ++ data) ++ X := by
    unfold fileBytes
    rw [if_pos hF, hX]
    unfold fileBody putT stampBytes
    have e5 : (⟨data.toArray⟩ : ByteArray).data.toList = data := rfl
    have e6 : ((⟨data.toArray⟩ : ByteArray).size : Int) = data.length := rfl
    rw [e5, e6, c5]
  obtain ⟨A, hA⟩ : ∃ A, Mt.enc (Mt.clamp t) = A := ⟨_, rfl⟩
  obtain ⟨B, hB⟩ : ∃ B, A ++ Mt.enc (Mt.clamp q) = B := ⟨_, rfl⟩
  obtain ⟨C, hC⟩ : ∃ C, B ++ Mt.enc (Mt.clamp n) = C := ⟨_, rfl⟩
  obtain ⟨D, hD⟩ : ∃ D, C ++ Mt.enc (Mt.clamp (d01 d)) = D := ⟨_, rfl⟩
  rw [hA, hB, hC, hD] at e
  obtain ⟨L, hL⟩ : ∃ L, fileBytes t q n d data = L := ⟨_, rfl⟩
  rw [hL] at e
  have g1 : gS1 L = some (Mt.clamp t, A.length) := by
    unfold gS1
    have := Mt.getNum_enc [] (Mt.enc (Mt.clamp q) ++ Mt.enc (Mt.clamp n) ++ Mt.enc (Mt.clamp (d01 d)) ++ Mt.enc data.length ++ data ++ X) _ c1.2
    rw [List.nil_append, hA] at this
    rw [e, ← hD, ← hC, ← hB]
    simpa [List.append_assoc] using this
  have g2 : gS2 L = some (Mt.clamp q, B.length) := by
    unfold gS2
    rw [g1]
    have := Mt.getNum_enc A (Mt.enc (Mt.clamp n) ++ Mt.enc (Mt.clamp (d01 d)) ++ Mt.enc data.length ++ data ++ X) _ c2.2
    rw [hB] at this
    rw [e, ← hD, ← hC]
    simpa [np, List.append_assoc] using this
  have g3 : gS3 L = some (Mt.clamp n, C.length) := by
    unfold gS3
    rw [g2]
    have := Mt.getNum_enc B (Mt.enc (Mt.clamp (d01 d)) ++ Mt.enc data.length ++ data ++ X) _ c3.2
    rw [hC] at this
    rw [e, ← hD]
    simpa [np, List.append_assoc] using this
  have g4 : gD L = some (Mt.clamp (d01 d), D.length) := by
    unfold gD
    rw [g3]
    have := Mt.getNum_enc C (Mt.enc data.length ++ data ++ X) _ c4.2
    rw [hD] at this
    rw [e]
    simpa [np, List.append_assoc] using this
  have g5 : gX L = some (data, (D ++ Mt.enc data.length ++ data).length) := by
    unfold gX
    rw [g4, e]
    exact getText_mid D data X _ (by omega) rfl
  have hdd : gDead L = d := by unfold gDead; rw [g4]; show decide (((Mt.clamp (d01 d) : Nat) : Int) = 1) = d; rw [c4.1]; cases d <;> rfl
  have hgood : gGood L = true := by
    unfold gGood gOk
    rw [g1, g2, g3, g4, g5]
    have i1 : nv (some (Mt.clamp (d01 d), D.length)) ≤ 1 := by show ((Mt.clamp (d01 d) : Nat) : Int) ≤ 1; rw [c4.1]; cases d <;> decide
    have i2 : tp (some (data, (D ++ Mt.enc data.length ++ data).length)) + 4 = (L.length : Int) := by
      rw [e, List.length_append (bs := X), hX4]; rfl
    rw [decide_eq_true i1, decide_eq_true i2]
    rfl
  have hright : gRight L = true := by
    unfold gRight
    rw [hdd, g1, g2, g3, g5]
    simp only [nv, tv, c1.1, c2.1, c3.1, hF, hL, Bool.true_and, decide_true]
  rw [hL]
  unfold getF
  rw [hgood, hright, if_pos (by rfl), hdd, g1, g2, g3, g5]
  simp only [nv, tv, c1.1, c2.1, c3.1]
end Go.Proofs.Ytpejeoekpejblad.Wk
