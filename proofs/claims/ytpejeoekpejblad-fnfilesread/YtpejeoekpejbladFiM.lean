/- Numbers that are read are bytes' only ones; a file that is read of the bytes ahead of its sum: plain facts. -/
import Derived.Test.YtpejeoekpejbladGtM
namespace Go.Proofs.Ytpejeoekpejblad.Mt
set_option linter.unusedVariables false

theorem getGo_canon (f : Nat) : ∀ (k n : Nat) (l : List UInt8) (m j : Nat), getGo (f + 1) k n l = some (m, j) →
    ∃ r, m = n + r * 128 ^ k ∧ (0 < k → 0 < r) ∧ j = k + (encGo f r).length ∧ ∃ t, l = encGo f r ++ t := by
  induction f with
  | zero =>
    intro k n l m j h
    cases l with
    | nil => simp [getGo] at h
    | cons c t =>
      simp only [getGo] at h
      by_cases hc : 128 ≤ c.toNat
      · rw [if_pos hc] at h; simp at h
      · rw [if_neg hc] at h
        split at h
        · simp at h
        · rename_i hb
          simp only [Option.some.injEq, Prod.mk.injEq] at h
          have hm : c.toNat % 128 = c.toNat := Nat.mod_eq_of_lt (by omega)
          rw [hm] at h
          exact ⟨c.toNat, h.1.symm, fun hk => by omega, by simp [encGo]; omega, t, by simp [encGo]⟩
  | succ f ih =>
    intro k n l m j h
    cases l with
    | nil => simp [getGo] at h
    | cons c t =>
      rw [getGo] at h
      by_cases hc : 128 ≤ c.toNat
      · rw [if_pos hc] at h
        obtain ⟨r, h1, h2, h3, u, h4⟩ := ih _ _ _ _ _ h
        have hr0 := h2 (by omega)
        have hlt : c.toNat < 256 := c.toNat_lt
        have e1 : (c.toNat % 128 + 128 * r) % 128 + 128 = c.toNat := by omega
        have e2 : (c.toNat % 128 + 128 * r) / 128 = r := by omega
        have e3 : encGo (f + 1) (c.toNat % 128 + 128 * r) = c :: encGo f r := by
          conv => lhs; unfold encGo
          rw [if_pos (by omega), e1, e2]
          simp
        refine ⟨c.toNat % 128 + 128 * r, ?_, fun _ => by omega, ?_, u, ?_⟩
        · rw [h1, Nat.pow_succ, Nat.add_mul, Nat.add_assoc, ← Nat.mul_assoc, Nat.mul_right_comm r, Nat.mul_comm 128 r, Nat.mul_right_comm r 128]
        · rw [e3, h3, List.length_cons]; omega
        · rw [e3, h4]; rfl
      · rw [if_neg hc] at h
        split at h
        · simp at h
        · rename_i hb
          simp only [Option.some.injEq, Prod.mk.injEq] at h
          have hm : c.toNat % 128 = c.toNat := Nat.mod_eq_of_lt (by omega)
          rw [hm] at h
          have e3 : encGo (f + 1) c.toNat = [c] := by rw [encGo_last _ _ (by omega)]; simp
          exact ⟨c.toNat, h.1.symm, fun hk => by omega, by rw [e3]; simp; omega, t, by rw [e3]; rfl⟩

/-- what was read as a number are its bytes -/
theorem getNum_canon (l : List UInt8) (p : Nat) (n k : Nat) (h : getNum l (p : Int) = some (n, k)) : n ≤ 1000000000 ∧ ∃ t, l = l.take p ++ enc n ++ t ∧ (l.take p ++ enc n).length = k ∧ (l.take p).length = p := by
  have hle := getNum_le l p n k h
  have hp : p < l.length := by omega
  rw [getNum_in l p hp] at h
  cases hg : getGo 5 0 0 (l.drop p) with
  | none => rw [hg] at h; simp at h
  | some x =>
    obtain ⟨m, j⟩ := x
    rw [hg] at h
    simp only [Option.map_some, Option.some.injEq, Prod.mk.injEq] at h
    obtain ⟨rfl, rfl⟩ := h
    obtain ⟨r, h1, -, h3, t, h4⟩ := getGo_canon 4 0 0 _ m j hg
    have hr : r = m := by rw [h1]; simp
    subst hr
    have hlp : (l.take p).length = p := by rw [List.length_take]; omega
    refine ⟨hle.2.1, t, ?_, ?_, hlp⟩
    · have e : l = l.take p ++ l.drop p := (List.take_append_drop p l).symm
      conv => lhs; rw [e, h4]
      rw [List.append_assoc]; rfl
    · rw [List.length_append, hlp, h3]; unfold enc; omega
/-- the same, of a number read behind bytes that are known -/
theorem getNum_behind (A u : List UInt8) (n k : Nat) (h : getNum (A ++ u) (A.length : Int) = some (n, k)) : n ≤ 1000000000 ∧ ∃ t, A ++ u = (A ++ enc n) ++ t ∧ (A ++ enc n).length = k := by
  obtain ⟨h0, t, h1, h2, -⟩ := getNum_canon _ _ _ _ h
  rw [List.take_left' rfl] at h1 h2
  exact ⟨h0, t, h1, h2⟩
end Go.Proofs.Ytpejeoekpejblad.Mt
namespace Go.Proofs.Ytpejeoekpejblad.Wk
set_option linter.unusedVariables false

/-- how many data there are, and where they begin -/
def gZ (l : List UInt8) := Mt.getNum l (np (gD l))
/-- all five numbers are there -/
def iOk (l : List UInt8) : Bool := gOk l && ((gD l).isSome && (gZ l).isSome)
/-- and say what a file may have -/
def iFit (l : List UInt8) : Bool := decide (nv (gD l) ≤ 1) && decide (nv (gZ l) = (l.length : Int) - np (gZ l))
def iData (l : List UInt8) : List UInt8 := l.drop (np (gZ l)).toNat
/-- the file of the bytes ahead of the sum -/
def fIn (l : List UInt8) : Option Fl := if iOk l && (iFit l && fileB (nv (gS1 l)) (nv (gS2 l)) (nv (gS3 l)) (gDead l) (iData l).length) then some (nv (gS1 l), nv (gS2 l), nv (gS3 l), gDead l, iData l) else none

theorem some_of {α : Type} {o : Option α} (h : o.isSome = true) : ∃ x, o = some x := Option.isSome_iff_exists.1 h

theorem fIn_some (l : List UInt8) (x : Fl) (h : fIn l = some x) : fileB x.1 x.2.1 x.2.2.1 x.2.2.2.1 x.2.2.2.2.length = true ∧ l = fileBody x.1 x.2.1 x.2.2.1 x.2.2.2.1 x.2.2.2.2 := by
  unfold fIn at h
  split at h
  · rename_i hc
    simp only [Option.some.injEq] at h
    subst h
    simp only [iOk, gOk, iFit, Bool.and_eq_true, decide_eq_true_eq] at hc
    obtain ⟨⟨⟨k1, k2, k3⟩, k4, k5⟩, ⟨f1, f2⟩, hB⟩ := hc
    refine ⟨hB, ?_⟩
    obtain ⟨⟨n1, p1⟩, e1⟩ := some_of k1
    obtain ⟨⟨n2, p2⟩, e2⟩ := some_of k2
    obtain ⟨⟨n3, p3⟩, e3⟩ := some_of k3
    obtain ⟨⟨n4, p4⟩, e4⟩ := some_of k4
    obtain ⟨⟨n5, p5⟩, e5⟩ := some_of k5
    have hdd : gDead l = decide ((n4 : Int) = 1) := by unfold gDead; rw [e4]; rfl
    rw [hdd] at hB ⊢
    simp only [e1, e2, e3] at hB ⊢
    rw [e4] at f1
    rw [e5] at f2
    unfold iData at hB ⊢
    rw [e5] at hB ⊢
    simp only [nv, np, Int.toNat_natCast] at f1 f2 hB ⊢
    unfold gS2 at e2
    rw [e1] at e2
    unfold gS3 at e3
    rw [show gS2 l = some (n2, p2) from by unfold gS2; rw [e1]; exact e2] at e3
    unfold gD at e4
    rw [show gS3 l = some (n3, p3) from by unfold gS3; rw [show gS2 l = some (n2, p2) from by unfold gS2; rw [e1]; exact e2]; exact e3] at e4
    unfold gZ at e5
    rw [show gD l = some (n4, p4) from by unfold gD; rw [show gS3 l = some (n3, p3) from by unfold gS3; rw [show gS2 l = some (n2, p2) from by unfold gS2; rw [e1]; exact e2]; exact e3]; exact e4] at e5
    simp only [np] at e2 e3 e4 e5
    unfold gS1 at e1
    obtain ⟨b1, t1, q1, r1⟩ := Mt.getNum_behind [] l n1 p1 e1
    rw [List.nil_append, List.nil_append] at q1
    rw [List.nil_append] at r1
    rw [q1, ← r1] at e2
    obtain ⟨b2, t2, q2, r2⟩ := Mt.getNum_behind _ _ n2 p2 e2
    rw [← q1] at q2
    rw [q2, ← r2] at e3
    obtain ⟨b3, t3, q3, r3⟩ := Mt.getNum_behind _ _ n3 p3 e3
    rw [← q2] at q3
    rw [q3, ← r3] at e4
    obtain ⟨b4, t4, q4, r4⟩ := Mt.getNum_behind _ _ n4 p4 e4
    rw [← q3] at q4
    rw [q4, ← r4] at e5
    obtain ⟨b5, t5, q5, r5⟩ := Mt.getNum_behind _ _ n5 p5 e5
    rw [← q4] at q5
    have hdr : l.drop p5 = t5 := by rw [q5, ← r5, List.drop_left]
    rw [hdr] at hB ⊢
    have hlen : l.length = p5 + t5.length := by rw [q5, List.length_append, r5]
    have hn5 : n5 = t5.length := by omega
    have hF := hB
    unfold fileB at hB
    simp only [Bool.and_eq_true, decide_eq_true_eq] at hB
    obtain ⟨hs, hk, hd⟩ := hB
    have c : ∀ n : Nat, n ≤ 1000000000 → Mt.clamp (n : Int) = n := fun n h => by rcases Mt.clamp3 (n : Int) with h | h | h <;> omega
    have c4 : Mt.clamp (d01 (decide ((n4 : Int) = 1))) = n4 := by
      rcases (show n4 = 0 ∨ n4 = 1 from by omega) with rfl | rfl <;> rfl
    unfold fileBody stampBytes putT
    rw [c n1 b1, c n2 b2, c n3 b3, c4]
    have e6 : (⟨t5.toArray⟩ : ByteArray).data.toList = t5 := rfl
    have e7 : ((⟨t5.toArray⟩ : ByteArray).size : Int) = t5.length := rfl
    rw [e6, e7, c t5.length (by omega), ← hn5]
    exact q5
  · simp at h

theorem fIn_back (t q n : Int) (d : Bool) (data : List UInt8) (h : fileB t q n d data.length = true) : fIn (fileBody t q n d data) = some (t, q, n, d, data) := by
  have hF := h
  unfold fileB at h
  simp only [Bool.and_eq_true, decide_eq_true_eq] at h
  obtain ⟨hs, hk, hd⟩ := h
  obtain ⟨⟨t0, t1⟩, ⟨q0, q1⟩, n0, n1⟩ := Sm.ok_true hs
  have c1 : ((Mt.clamp t : Nat) : Int) = t ∧ Mt.clamp t ≤ 1000000000 := by rcases Mt.clamp3 t with h | h | h <;> omega
  have c2 : ((Mt.clamp q : Nat) : Int) = q ∧ Mt.clamp q ≤ 1000000000 := by rcases Mt.clamp3 q with h | h | h <;> omega
  have c3 : ((Mt.clamp n : Nat) : Int) = n ∧ Mt.clamp n ≤ 1000000000 := by rcases Mt.clamp3 n with h | h | h <;> omega
  have c4 : ((Mt.clamp (d01 d) : Nat) : Int) = d01 d ∧ Mt.clamp (d01 d) ≤ 1000000000 := by cases d <;> exact ⟨rfl, by decide⟩
  have c5 : Mt.clamp (data.length : Int) = data.length := by rcases Mt.clamp3 (data.length : Int) with h | h | h <;> omega
  have e : fileBody t q n d data = ((((Mt.enc (Mt.clamp t) ++ Mt.enc (Mt.clamp q)) ++ Mt.enc (Mt.clamp n)) ++ Mt.enc (Mt.clamp (d01 d))) ++ Mt.enc data.length ++ data) := by
    unfold fileBody putT stampBytes
    have e5 : (⟨data.toArray⟩ : ByteArray).data.toList = data := rfl
    have e6 : ((⟨data.toArray⟩ : ByteArray).size : Int) = data.length := rfl
    rw [e5, e6, c5]
  obtain ⟨A, hA⟩ : ∃ A, Mt.enc (Mt.clamp t) = A := ⟨_, rfl⟩
  obtain ⟨B, hB⟩ : ∃ B, A ++ Mt.enc (Mt.clamp q) = B := ⟨_, rfl⟩
  obtain ⟨C, hC⟩ : ∃ C, B ++ Mt.enc (Mt.clamp n) = C := ⟨_, rfl⟩
  obtain ⟨D, hD⟩ : ∃ D, C ++ Mt.enc (Mt.clamp (d01 d)) = D := ⟨_, rfl⟩
  rw [hA, hB, hC, hD] at e
  obtain ⟨L, hL⟩ : ∃ L, fileBody t q n d data = L := ⟨_, rfl⟩
  rw [hL] at e
  have g1 : gS1 L = some (Mt.clamp t, A.length) := by
    unfold gS1
    have := Mt.getNum_enc [] (Mt.enc (Mt.clamp q) ++ Mt.enc (Mt.clamp n) ++ Mt.enc (Mt.clamp (d01 d)) ++ Mt.enc data.length ++ data) _ c1.2
    rw [List.nil_append, hA] at this
    rw [e, ← hD, ← hC, ← hB]
    simpa [List.append_assoc] using this
  have g2 : gS2 L = some (Mt.clamp q, B.length) := by
    unfold gS2
    rw [g1]
    have := Mt.getNum_enc A (Mt.enc (Mt.clamp n) ++ Mt.enc (Mt.clamp (d01 d)) ++ Mt.enc data.length ++ data) _ c2.2
    rw [hB] at this
    rw [e, ← hD, ← hC]
    simpa [np, List.append_assoc] using this
  have g3 : gS3 L = some (Mt.clamp n, C.length) := by
    unfold gS3
    rw [g2]
    have := Mt.getNum_enc B (Mt.enc (Mt.clamp (d01 d)) ++ Mt.enc data.length ++ data) _ c3.2
    rw [hC] at this
    rw [e, ← hD]
    simpa [np, List.append_assoc] using this
  have g4 : gD L = some (Mt.clamp (d01 d), D.length) := by
    unfold gD
    rw [g3]
    have := Mt.getNum_enc C (Mt.enc data.length ++ data) _ c4.2
    rw [hD] at this
    rw [e]
    simpa [np, List.append_assoc] using this
  have g5 : gZ L = some (data.length, (D ++ Mt.enc data.length).length) := by
    unfold gZ
    rw [g4, e]
    exact Mt.getNum_enc D data _ (by omega)
  have hdd : gDead L = d := by unfold gDead; rw [g4]; show decide (((Mt.clamp (d01 d) : Nat) : Int) = 1) = d; rw [c4.1]; cases d <;> rfl
  have hdat : iData L = data := by
    unfold iData
    rw [g5, e]
    exact List.drop_left
  have hok : iOk L = true := by unfold iOk gOk; rw [g1, g2, g3, g4, g5]; rfl
  have hfit : iFit L = true := by
    unfold iFit
    rw [g4, g5]
    have i1 : nv (some (Mt.clamp (d01 d), D.length)) ≤ 1 := by show ((Mt.clamp (d01 d) : Nat) : Int) ≤ 1; rw [c4.1]; cases d <;> decide
    have i2 : nv (some (data.length, (D ++ Mt.enc data.length).length)) = (L.length : Int) - np (some (data.length, (D ++ Mt.enc data.length).length)) := by
      rw [e]
      simp only [nv, np, List.length_append]
      omega
    rw [decide_eq_true i1, decide_eq_true i2]
    rfl
  rw [hL]
  unfold fIn
  rw [hok, hfit, hdd, hdat, g1, g2, g3]
  simp only [nv, c1.1, c2.1, c3.1, hF, Bool.true_and, if_true]

theorem getF_parts {l : List UInt8} {f : Fl} (h : getF l = some f) : fileB f.1 f.2.1 f.2.2.1 f.2.2.2.1 f.2.2.2.2.length = true ∧ fileBytes f.1 f.2.1 f.2.2.1 f.2.2.2.1 f.2.2.2.2 = l := by
  unfold getF at h
  cases hg : gGood l && gRight l with
  | false => rw [hg] at h; cases h
  | true =>
    rw [hg, if_pos rfl] at h
    simp only [Option.some.injEq] at h
    subst h
    have hr : gRight l = true := by rw [Bool.and_eq_true] at hg; exact hg.2
    unfold gRight at hr
    simp only [Bool.and_eq_true, decide_eq_true_eq] at hr
    exact hr
/-- the file of bytes as the program reads it: four bytes less, and they are the sum -/
def implF (l : List UInt8) : Option Fl := if l.length < 4 then none else match fIn (l.take (l.length - 4)) with
  | none => none
  | some x => if crc4 (Mt.crcN (l.take (l.length - 4))) = l.drop (l.length - 4) then some x else none

theorem implF_eq (l : List UInt8) : implF l = getF l := by
  have hA : ∀ x, implF l = some x → getF l = some x := by
    intro x h
    unfold implF at h
    split at h
    · simp at h
    · split at h
      · simp at h
      · rename_i y hy
        split at h
        · rename_i hc
          simp only [Option.some.injEq] at h
          subst h
          obtain ⟨h1, h2⟩ := fIn_some _ _ hy
          have hl : l = fileBytes y.1 y.2.1 y.2.2.1 y.2.2.2.1 y.2.2.2.2 := by
            unfold fileBytes
            rw [if_pos h1, ← h2, hc, List.take_append_drop]
          rw [hl]
          exact getF_back _ _ _ _ _ h1
        · simp at h
  have hB : ∀ x, getF l = some x → implF l = some x := by
    intro x h
    obtain ⟨h1, h2⟩ := getF_parts h
    have hl : l = fileBody x.1 x.2.1 x.2.2.1 x.2.2.2.1 x.2.2.2.2 ++ crc4 (Mt.crcN (fileBody x.1 x.2.1 x.2.2.1 x.2.2.2.1 x.2.2.2.2)) := by
      unfold fileBytes at h2
      rw [if_pos h1] at h2
      exact h2.symm
    have hb := fIn_back _ _ _ _ _ h1
    generalize fileBody x.1 x.2.1 x.2.2.1 x.2.2.2.1 x.2.2.2.2 = b at hl hb
    have h4 : (crc4 (Mt.crcN b)).length = 4 := rfl
    have hlen : l.length = b.length + 4 := by rw [hl, List.length_append, h4]
    have ht : l.take (l.length - 4) = b := by rw [hlen, Nat.add_sub_cancel, hl, List.take_left]
    have hd : l.drop (l.length - 4) = crc4 (Mt.crcN b) := by rw [hlen, Nat.add_sub_cancel, hl, List.drop_left]
    unfold implF
    rw [if_neg (by omega), ht, hb, hd]
    simp
  cases h : implF l with
  | some x => exact (hA x h).symm
  | none =>
    cases h2 : getF l with
    | none => rfl
    | some x => rw [hB x h2] at h; cases h
end Go.Proofs.Ytpejeoekpejblad.Wk
