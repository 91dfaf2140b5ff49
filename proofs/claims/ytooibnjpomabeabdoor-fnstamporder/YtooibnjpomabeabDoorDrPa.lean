/- What DrawParseStamp comes to: a short text. -/
import Derived.Test.YtooibnjpomabeabDoorDrSt
import Derived.Test.YtooibnjpomabeabDoorStTextS
namespace Go.Proofs.YtooibnjpomabeabDoor.Wk
set_option linter.unusedVariables false
open Go.ChangeShapes Go.WideShapes Go.ChangeAt Go.RowKit

set_option maxHeartbeats 1000000 in
theorem l1Once (C : Nat) (l : List UInt8) (n : Int) (w : World) (hc : Cur w C l) (hn : n ≤ 2147483648) :
    Calls Tryd.prog 17 #[.pointer (some ⟨C, 0, none⟩), .int .i64 n] w fun e w' => ∃ B : Bool, e = .returned (.bool B) ∧ Cur w' C l ∧ w.grownBy w' (some C) := by
  go_enter Tryd.func17, Tryd.ntmps17
  go_wp2_with fail
  refine (l1Below C l n _ hc hn).mono ?_
  rintro e w1 ⟨x, rfl, hx0, -, -, hc1, hg1⟩
  go_wp2
  go_ret
  exact ⟨_, rfl, hc1, hg1⟩

/-- the address a leads to the texts ss -/
def RdX (w : World) (a : Option Addr) (ss : List ByteArray) : Prop := ∀ i (h : i < ss.length), ∃ b off, a = some ⟨b, off, none⟩ ∧ w.cell? ⟨b, off + i, none⟩ = some (.string ss[i])
theorem rdxNew {w : World} {t : TypeId} {ss : List ByteArray} {cs : Array Value} (h : cs = (ss.map Value.string).toArray) : RdX (w.alloc (.cells cs t)) (some ⟨w.heap.size, 0, none⟩) ss := by
  intro i hi
  refine ⟨w.heap.size, 0, rfl, ?_⟩
  rw [World.cell?_alloc_at _ _ _ _ rfl, h]
  simp [hi]

set_option maxHeartbeats 1000000 in
theorem l1Str (C b off cap m : Nat) (l : List UInt8) (ss : List ByteArray) (w : World) (hm : ss.length = m) (hc : Cur w C l) (h0 : 0 < ss.length) (h1 : ss.length ≤ 1000) (hr : RdX w (some ⟨b, off, none⟩) ss) (hb : b ≠ C) :
    Calls Tryd.prog 23 #[.pointer (some ⟨C, 0, none⟩), .slice (some ⟨b, off, none⟩) m cap] w fun e w' => ∃ (j : Nat) (hj : j < ss.length), e = .returned (.string ss[j]) ∧ Cur w' C l ∧ w.grownBy w' (some C) := by
  subst hm
  go_enter Tryd.func23, Tryd.ntmps23
  go_wp2_with fail
  refine (l1Below C l _ _ hc (by omega)).mono ?_
  rintro e w1 ⟨x, rfl, hx0, hx1, -, hc1, hg1⟩
  obtain ⟨j, rfl⟩ := Int.eq_ofNat_of_zero_le hx0
  have hj : j < ss.length := by have := hx1 (by omega); omega
  obtain ⟨b', off', e', hcell⟩ := hr j hj
  simp only [Option.some.injEq, Addr.mk.injEq, and_true] at e'
  obtain ⟨rfl, rfl⟩ := e'
  have hcell1 := hg1.cell hcell (by simp; omega)
  clear hx1
  go_wp2
  go_ret
  exact ⟨j, hj, rfl, hc1, hg1⟩

theorem inX (ss : List ByteArray) (k : Nat) (h : ∀ x ∈ ss, x.size ≤ k) (j : Nat) (hj : j < ss.length) : ss[j].size ≤ k := h _ (List.getElem_mem hj)
theorem dot_size (t q n : Nat) (ht : t ≤ 1000000000) (hq : q ≤ 1000000000) (hn : n ≤ 1000000000) : (dotted t q n).size ≤ 100 := by
  have l1 := dec_len t (by omega)
  have l2 := dec_len q (by omega)
  have l3 := dec_len n (by omega)
  unfold dotted
  rw [ByteArray.size_append, ByteArray.size_append, ByteArray.size_append, ByteArray.size_append, szL (Lib.decDigits t), szL (Lib.decDigits q), szL (Lib.decDigits n), sz1]
  omega

set_option maxHeartbeats 1000000 in
theorem drawParse (a : Option Addr) (cap : Nat) (l : List UInt8) (w : World) (hl : l.length ≤ 1048576) (hr : RdA w a l) :
    Calls Tryd.prog 13 #[.slice a l.length cap] w fun e w' => ∃ s : ByteArray, e = .returned (.string s) ∧ s.size ≤ 100 ∧ Below w.heap.size w w' := by
  go_enter Tryd.func13, Tryd.ntmps13
  go_wp2_with fail
  refine (l1New a cap l _ hl hr).mono ?_
  rintro e w1 ⟨rfl, hc1, hb1⟩
  go_wp2_with fail
  refine (l1Once w.heap.size l 3 _ hc1 (by omega)).mono ?_
  rintro e w2 ⟨B, rfl, hc2, hg2⟩
  have hB2 := belowOf hb1 hg2 (Nat.le_refl _)
  cases B with
  | true =>
    have hX := rdxNew (w := w2) (t := 9) (ss := [⟨#[]⟩, ⟨#[49]⟩, ⟨#[49, 46, 50]⟩, ⟨#[49, 46, 50, 46, 51, 46, 52]⟩, ⟨#[48, 49, 46, 50, 46, 51]⟩, ⟨#[49, 46, 46, 51]⟩, ⟨#[49, 46, 50, 46, 50, 49]⟩, ⟨#[45, 49, 46, 50, 46, 51]⟩, ⟨#[49, 48, 48, 48, 48, 48, 48, 48, 48, 49, 46, 48, 46, 48]⟩, ⟨#[57, 57, 57, 57, 57, 57, 57, 57, 57, 57, 57, 46, 48, 46, 48]⟩]) (cs := #[.string ⟨#[]⟩, .string ⟨#[49]⟩, .string ⟨#[49, 46, 50]⟩, .string ⟨#[49, 46, 50, 46, 51, 46, 52]⟩, .string ⟨#[48, 49, 46, 50, 46, 51]⟩, .string ⟨#[49, 46, 46, 51]⟩, .string ⟨#[49, 46, 50, 46, 50, 49]⟩, .string ⟨#[45, 49, 46, 50, 46, 51]⟩, .string ⟨#[49, 48, 48, 48, 48, 48, 48, 48, 48, 49, 46, 48, 46, 48]⟩, .string ⟨#[57, 57, 57, 57, 57, 57, 57, 57, 57, 57, 57, 46, 48, 46, 48]⟩]) rfl
    have hb2 := bel1 w2 (.cells #[.string ⟨#[]⟩, .string ⟨#[49]⟩, .string ⟨#[49, 46, 50]⟩, .string ⟨#[49, 46, 50, 46, 51, 46, 52]⟩, .string ⟨#[48, 49, 46, 50, 46, 51]⟩, .string ⟨#[49, 46, 46, 51]⟩, .string ⟨#[49, 46, 50, 46, 50, 49]⟩, .string ⟨#[45, 49, 46, 50, 46, 51]⟩, .string ⟨#[49, 48, 48, 48, 48, 48, 48, 48, 48, 49, 46, 48, 46, 48]⟩, .string ⟨#[57, 57, 57, 57, 57, 57, 57, 57, 57, 57, 57, 46, 48, 46, 48]⟩] 9)
    have hz2 := hc2.lt
    go_wp2_with fail
    refine (l1Str w.heap.size w2.heap.size 0 _ 10 l [⟨#[]⟩, ⟨#[49]⟩, ⟨#[49, 46, 50]⟩, ⟨#[49, 46, 50, 46, 51, 46, 52]⟩, ⟨#[48, 49, 46, 50, 46, 51]⟩, ⟨#[49, 46, 46, 51]⟩, ⟨#[49, 46, 50, 46, 50, 49]⟩, ⟨#[45, 49, 46, 50, 46, 51]⟩, ⟨#[49, 48, 48, 48, 48, 48, 48, 48, 48, 49, 46, 48, 46, 48]⟩, ⟨#[57, 57, 57, 57, 57, 57, 57, 57, 57, 57, 57, 46, 48, 46, 48]⟩] _ rfl (hc2.below hb2) (by simp) (by simp) hX (by omega)).mono ?_
    rintro e w3 ⟨j, hj, rfl, hc3, hg3⟩
    have hy := inX [⟨#[]⟩, ⟨#[49]⟩, ⟨#[49, 46, 50]⟩, ⟨#[49, 46, 50, 46, 51, 46, 52]⟩, ⟨#[48, 49, 46, 50, 46, 51]⟩, ⟨#[49, 46, 46, 51]⟩, ⟨#[49, 46, 50, 46, 50, 49]⟩, ⟨#[45, 49, 46, 50, 46, 51]⟩, ⟨#[49, 48, 48, 48, 48, 48, 48, 48, 48, 49, 46, 48, 46, 48]⟩, ⟨#[57, 57, 57, 57, 57, 57, 57, 57, 57, 57, 57, 46, 48, 46, 48]⟩] 100 (by decide) j hj
    generalize ([⟨#[]⟩, ⟨#[49]⟩, ⟨#[49, 46, 50]⟩, ⟨#[49, 46, 50, 46, 51, 46, 52]⟩, ⟨#[48, 49, 46, 50, 46, 51]⟩, ⟨#[49, 46, 46, 51]⟩, ⟨#[49, 46, 50, 46, 50, 49]⟩, ⟨#[45, 49, 46, 50, 46, 51]⟩, ⟨#[49, 48, 48, 48, 48, 48, 48, 48, 48, 49, 46, 48, 46, 48]⟩, ⟨#[57, 57, 57, 57, 57, 57, 57, 57, 57, 57, 57, 46, 48, 46, 48]⟩] : List ByteArray)[j] = s at hy
    clear hX hj
    go_wp2
    go_ret
    exact ⟨s, rfl, hy, belowOf (behind hB2 hb2) hg3 (Nat.le_refl _)⟩
  | false =>
    go_wp2_with fail
    refine (l2Draw w.heap.size l _ hc2).mono ?_
    rintro e w3 ⟨t, q, n, rfl, ht, hq, hn, hc3, hg3⟩
    have hB3 := belowOf hB2 hg3 (Nat.le_refl _)
    obtain ⟨t, rfl⟩ := Int.eq_ofNat_of_zero_le ht.1
    obtain ⟨q, rfl⟩ := Int.eq_ofNat_of_zero_le hq.1
    obtain ⟨n, rfl⟩ := Int.eq_ofNat_of_zero_le hn.1
    have hD := dot_size t q n (by omega) (by omega) (by omega)
    have cT := specText t q n (Sm.ok_mk ⟨⟨by omega, by omega⟩, ⟨by omega, by omega⟩, by omega, by omega⟩)
    generalize dotted t q n = D at hD cT
    go_wp2_with fail
    refine (cT _).mono ?_
    rintro e w4 ⟨rfl, hb4⟩
    go_wp2
    go_ret
    exact ⟨D, rfl, hD, behind hB3 hb4⟩
end Go.Proofs.YtooibnjpomabeabDoor.Wk
