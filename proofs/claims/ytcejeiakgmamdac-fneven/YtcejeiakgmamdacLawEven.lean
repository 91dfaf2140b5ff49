/- For every slice of bytes the law FnEven returns true: of a ring that is built of drawn devices, all of one zone and one weight, no load is two above another, and all loads together are as many as its replicas. Conditions: none beyond the row's own. -/
import Derived.Test.YtcejeiakgmamdacRows
import Derived.Test.YtcejeiakgmamdacBy
import Derived.Test.YtcejeiakgmamdacAtW
import Derived.Test.YtcejeiakgmamdacBuX
import Derived.Test.YtcejeiakgmamdacLdI
import Derived.Test.YtcejeiakgmamdacLwM
import Derived.Test.YtcejeiakgmamdacDrE
import Derived.WalkKit
import Derived.ProofKit
import Derived.OpenShut
import Derived.ShutString
import Derived.ChangeOld
import Derived.Below
namespace Go.Proofs.Ytcejeiakgmamdac.fnEven
open Go.ChangeShapes Go.WideShapes Go.ChangeAt Go.RowKit
open Go.ChangeMaps (open_string shut_string)
set_option linter.unusedVariables false

theorem own : ownKnob Try.prog.godebug = none := by kernel_rfl
theorem laidOut : laidOutB Try.prog = true := by kernel_rfl

open Wk

theorem OwnP.form {w : World} {base n cap : Nat} {a : Option Addr} {Q : List (List Int)} (h : OwnP w base (.slice a n cap) Q) (h0 : 0 < Q.length) : ∃ g, a = some ⟨g, 0, none⟩ := by
  obtain ⟨vs, h1, _⟩ := h
  rcases h1.2 with ⟨e, h2⟩ | ⟨g, cap', cur, e, _⟩
  · omega
  · simp only [Value.slice.injEq] at e
    exact ⟨g, e.1⟩
theorem zs_three {X : List Sm.St} (h : ∀ d ∈ X, d.2.1 = 3) (h1 : 1 ≤ X.length) : Dv.Zs X [3] := by
  refine ⟨by simp, fun z => ?_, by simpa using h1⟩
  rw [List.mem_singleton]
  constructor
  · rintro rfl
    exact ⟨X[0], List.getElem_mem (by omega), h _ (List.getElem_mem (by omega))⟩
  · rintro ⟨d, hd, rfl⟩
    exact h d hd

set_option maxHeartbeats 8000000 in
set_option maxRecDepth 100000 in
theorem walk (a0 : Option Addr) (len0 cap0 : Nat) (z0 : List Int) (w : World) (w0 : IsRow .u8 w a0 len0 cap0 z0) :
    Calls Try.prog 4 #[.slice a0 len0 cap0] w fun e w' => e = .returned (.bool true) ∧ Below w.heap.size w w' := by
  obtain ⟨l, rfl, hlc, hcm, hr⟩ := w0.rd
  clear w0
  by_cases hb : l.length ≤ 1048576
  · go_enter Try.func4, Try.ntmps4
    go_wp2_with (go_at_call 9; go_in)
    go_wp2_with fail
    refine (drawEqual a0 cap0 l _ hb hr).mono ?_
    rintro e w1 ⟨X, g, cp, W, rfl, hX2, hX6, hdv, hw3, hz3, hr3, hB1⟩
    have HZ := zs_three hz3 (by omega)
    have c2 := atC a0 cap0 2 l w1 hb (by omega) (by omega) (hr.below hB1)
    have c3 := atC a0 cap0 3 l w1 hb (by omega) (by omega) (hr.below hB1)
    obtain ⟨x2, hx2⟩ : ∃ x : Nat, atV l 2 = x := ⟨(atV l 2).toNat, by have := atV_le l 2; omega⟩
    obtain ⟨x3, hx3⟩ : ∃ x : Nat, atV l 3 = x := ⟨(atV l 3).toNat, by have := atV_le l 3; omega⟩
    rw [hx2] at c2
    rw [hx3] at c3
    have hx2' : x2 ≤ 255 := by have := atV_le l 2; omega
    have hx3' : x3 ≤ 255 := by have := atV_le l 3; omega
    clear hx2 hx3 hr hlc hcm
    obtain ⟨p, hp, hp1, hp20⟩ : ∃ p : Nat, (1 : Int) + (x2 : Int) % 20 = (p : Int) ∧ 1 ≤ p ∧ p ≤ 20 := ⟨1 + x2 % 20, by omega, by omega, by omega⟩
    obtain ⟨r, hrr, hr1, hrX⟩ : ∃ r : Nat, (1 : Int) + (x3 : Int) % (X.length : Int) = (r : Int) ∧ 1 ≤ r ∧ r ≤ X.length := ⟨1 + x3 % X.length, by simp, by omega, by have := Nat.mod_lt x3 (show 0 < X.length by omega); omega⟩
    have hXne : ¬ X.length = 0 := by omega
    have hXni : ¬ (X.length : Int) = 0 := by omega
    go_wp2_with fail
    refine c2.mono ?_
    rintro e wa ⟨rfl, hwa⟩
    subst wa
    go_wp2_with fail
    refine c3.mono ?_
    rintro e wa ⟨rfl, hwa⟩
    subst wa
    clear c2 c3
    by_cases h5 : (5 : Int) < (r : Int)
    · have hpl := Rg.parts_len X 5 p
      have cB := implBuildYes (some ⟨g, 0, none⟩) cp X p 5 w1 hr3 hdv (by omega) (by omega) (by omega) (by omega) (by omega)
      rw [show ((5 : Nat) : Int) = 5 from rfl] at cB
      go_wp2_with fail
      refine cB.mono ?_
      rintro e w2 ⟨aI, caI, rfl, hOI, hb2⟩
      obtain ⟨gI, rfl⟩ := OwnP.form hOI (by omega)
      have s2 := slot2New w2 (.int .i64 5) (.slice (some ⟨gI, 0, none⟩) p caI) 29
      have b2 := bel1 w2 (.cells #[.int .i64 5, .slice (some ⟨gI, 0, none⟩) p caI] 29)
      have hB2 := behind (behind hB1 hb2) b2
      have hr2 := (hr3.below hb2).below b2
      have hR2 := hOI.rdS.below b2
      have hpr0 : (0 : Int) ≤ (p : Int) * 5 := Int.mul_nonneg (by omega) (by omega)
      have hpr1 : (p : Int) * 5 ≤ 1000 := by
        have : p * 5 ≤ 64 * 5 := Nat.mul_le_mul (by omega) (by omega)
        have e : ((p * 5 : Nat) : Int) = (p : Int) * 5 := by simp
        omega
      have hT : tot (Rg.parts X 5 p) = p * 5 := by rw [tot_constI _ 5 (Rg.parts_each X 5 p), hpl]
      have HS : Hid (((X.map fun d => Rg.load (Rg.parts X 5 p) d.1).sum : Nat) = 5 * p) := by
        have := Rg.loads_sum hdv 5 (Rg.parts X 5 p) (fun q hq => by
          obtain ⟨h1, h2, h3, _⟩ := Rg.parts_good hdv HZ (by omega) p q hq
          exact ⟨h2, h3⟩)
        rw [hpl] at this
        exact this
      have HE : Hid (∀ x ∈ X, ∀ y ∈ X, Rg.load (Rg.parts X 5 p) x.1 ≤ Rg.load (Rg.parts X 5 p) y.1 + 1) := Rg.ev_parts hdv hw3 hz3 (by omega) p
      have HL : Hid (∀ id, Rg.load (Rg.parts X 5 p) id ≤ p * 5) := fun id => by
        have := Rg.load_le (Rg.parts X 5 p) id
        have e : (List.map List.length (Rg.parts X 5 p)).sum = tot (Rg.parts X 5 p) := rfl
        omega
      have htot : tot (Rg.parts X 5 p) ≤ 1048576 := by
        have e : ((p * 5 : Nat) : Int) = (p : Int) * 5 := by simp
        omega
      have hpr : ((p * 5 : Nat) : Int) = (p : Int) * 5 := by simp
      clear cB hOI hr3 hB1 hb2 hdv hw3 hz3 hT
      generalize Rg.parts X 5 p = Q at hpl HS HE HL htot hR2
      subst hpl
      go_wp2
      generalize w2.alloc (.cells #[.int .i64 5, .slice (some ⟨gI, 0, none⟩) Q.length caI] 29) = wA at s2 b2 hB2 hr2 hR2 ⊢
      go_loopw [8, 9, 10, 11] (fun lo hi al i wr => ∃ (k L H S : Nat), k ≤ X.length ∧ i = .int .i64 k ∧ lo = .int .i64 L ∧ hi = .int .i64 H ∧ al = .int .i64 S ∧
          (L = Q.length * 5 ∨ ∃ d ∈ X, L = Rg.load Q d.1) ∧ (H = 0 ∨ ∃ d ∈ X, H = Rg.load Q d.1) ∧ Hid (S = ((X.take k).map fun d => Rg.load Q d.1).sum) ∧ S ≤ k * 1000 ∧ L ≤ 1000 ∧ Below wA.heap.size wA wr) (fun _ _ _ i _ => X.length - (intOf i).toNat)
      case atStart => exact ⟨0, Q.length * 5, 0, 0, Nat.zero_le _, rfl, by rw [hpr], rfl, rfl, .inl rfl, .inl rfl, rfl, by omega, by omega, Below.refl _ _⟩
      case round =>
        obtain ⟨k, L, H, S, hk, rfl, rfl, rfl, rfl, hL, hH, HSk, hS, hL1, hbr⟩ := hrel
        by_cases hlt : k < X.length
        · obtain ⟨⟨t0, t1⟩, -⟩ := s2.below hbr
          have hcell := (hr2.below hbr) k hlt
          obtain ⟨b, off, e, pp⟩ := hcell
          simp only [Option.some.injEq, Addr.mk.injEq, and_true] at e
          obtain ⟨rfl, rfl⟩ := e
          rw [Nat.zero_add] at pp
          obtain ⟨p0, -, -⟩ := pp
          have cL := implLoad 5 (some ⟨gI, 0, none⟩) caI Q X[k].1 wr.drew (by omega) htot (hR2.below hbr.drew)
          have hm := List.getElem_mem hlt
          have hn := HL.out X[k].1
          have HS2 : Hid (S + Rg.load Q X[k].1 = ((X.take (k + 1)).map fun d => Rg.load Q d.1).sum) := by
            show S + _ = _
            rw [List.take_succ_eq_append_getElem hlt, List.map_append, List.sum_append, ← HSk.out]
            simp
          have hL2 : (Rg.load Q X[k].1 = Q.length * 5 ∨ ∃ d ∈ X, Rg.load Q X[k].1 = Rg.load Q d.1) := .inr ⟨X[k], hm, rfl⟩
          have hH2 : (Rg.load Q X[k].1 = 0 ∨ ∃ d ∈ X, Rg.load Q X[k].1 = Rg.load Q d.1) := .inr ⟨X[k], hm, rfl⟩
          clear HSk
          generalize Rg.load Q X[k].1 = n at cL hn HS2 hL2 hH2
          generalize X[k].1 = idk at p0 cL
          have hkn : (k : Int) < (X.length : Int) := by omega
          have hk0 : (0 : Int) ≤ (k : Int) := by omega
          have hn1 : n ≤ 1000 := by omega
          go_wp2_with fail
          go_region_held3 (fun wy => wy.cell? ⟨w2.heap.size, 0, none⟩ = some (.int .i64 5) ∧ wy.cell? ⟨w2.heap.size, 1, none⟩ = some (.slice (some ⟨gI, 0, none⟩) Q.length caI) ∧ wy.cell? ⟨g, k * 3, none⟩ = some (.int .i64 idk))
            (first | exact ⟨t0, t1, p0⟩ | exact keepR3 ‹_› ‹_› | go_keep)
            (first | (go_at_call 18; refine cL.mono ?_; rintro e w5 ⟨rfl, hb5⟩) | fail)
          have hbr5 : Below wA.heap.size wA w5 := behind hbr.drew hb5
          clear cL p0 t0 t1 hm hb5
          by_cases h1 : n < L
          · by_cases h2 : H < n
            · go_wp2
              go_roundw
              case rel => exact ⟨k + 1, n, n, S + n, by omega, by go_num, by go_num, by go_num, by go_num, hL2, hH2, HS2, by omega, by omega, hbr5⟩
              case measure => simp [intOf]; omega
            · go_wp2
              go_roundw
              case rel => exact ⟨k + 1, n, H, S + n, by omega, by go_num, by go_num, by go_num, by go_num, hL2, hH, HS2, by omega, by omega, hbr5⟩
              case measure => simp [intOf]; omega
          · by_cases h2 : H < n
            · go_wp2
              go_roundw
              case rel => exact ⟨k + 1, L, n, S + n, by omega, by go_num, by go_num, by go_num, by go_num, hL, hH2, HS2, by omega, by omega, hbr5⟩
              case measure => simp [intOf]; omega
            · go_wp2
              go_roundw
              case rel => exact ⟨k + 1, L, H, S + n, by omega, by go_num, by go_num, by go_num, by go_num, hL, hH, HS2, by omega, by omega, hbr5⟩
              case measure => simp [intOf]; omega
        · have hS9 : (S : Int) = (Q.length : Int) * 5 := by
            have h1 := HSk.out
            rw [List.take_of_length_le (by omega), HS.out, Nat.mul_comm] at h1
            rw [h1, hpr]
          have hd9 : (H : Int) - (L : Int) ≤ 1 := by
            rcases hH with h | ⟨d, hd, h⟩
            · omega
            · rcases hL with h' | ⟨e, he, h'⟩
              · have := HL.out d.1
                omega
              · have := HE.out d hd e he
                omega
          have hH9 : H ≤ 1000 := by
            rcases hH with h | ⟨d, hd, h⟩
            · omega
            · have := HL.out d.1
              omega
          have hB9 := behind hB2 hbr
          clear hH hL HSk
          go_wp2
          go_ret
          exact ⟨rfl, hB9⟩
    · have h5n : ¬ 5 < r := by omega
      have h5d : decide (5 < r) = false := decide_eq_false h5n
      have hpl := Rg.parts_len X r p
      have cB := implBuildYes (some ⟨g, 0, none⟩) cp X p r w1 hr3 hdv (by omega) (by omega) (by omega) (by omega) (by omega)
      go_wp2_with fail
      refine cB.mono ?_
      rintro e w2 ⟨aI, caI, rfl, hOI, hb2⟩
      obtain ⟨gI, rfl⟩ := OwnP.form hOI (by omega)
      have s2 := slot2New w2 (.int .i64 (r : Int)) (.slice (some ⟨gI, 0, none⟩) p caI) 29
      have b2 := bel1 w2 (.cells #[.int .i64 (r : Int), .slice (some ⟨gI, 0, none⟩) p caI] 29)
      have hB2 := behind (behind hB1 hb2) b2
      have hr2 := (hr3.below hb2).below b2
      have hR2 := hOI.rdS.below b2
      have hpr0 : (0 : Int) ≤ (p : Int) * (r : Int) := Int.mul_nonneg (by omega) (by omega)
      have hpr1 : (p : Int) * (r : Int) ≤ 1000 := by
        have : p * r ≤ 64 * 5 := Nat.mul_le_mul (by omega) (by omega)
        have e : ((p * r : Nat) : Int) = (p : Int) * (r : Int) := by simp
        omega
      have hT : tot (Rg.parts X r p) = p * r := by rw [tot_constI _ r (Rg.parts_each X r p), hpl]
      have HS : Hid (((X.map fun d => Rg.load (Rg.parts X r p) d.1).sum : Nat) = r * p) := by
        have := Rg.loads_sum hdv r (Rg.parts X r p) (fun q hq => by
          obtain ⟨h1, h2, h3, _⟩ := Rg.parts_good hdv HZ (by omega) p q hq
          exact ⟨h2, h3⟩)
        rw [hpl] at this
        exact this
      have HE : Hid (∀ x ∈ X, ∀ y ∈ X, Rg.load (Rg.parts X r p) x.1 ≤ Rg.load (Rg.parts X r p) y.1 + 1) := Rg.ev_parts hdv hw3 hz3 (by omega) p
      have HL : Hid (∀ id, Rg.load (Rg.parts X r p) id ≤ p * r) := fun id => by
        have := Rg.load_le (Rg.parts X r p) id
        have e : (List.map List.length (Rg.parts X r p)).sum = tot (Rg.parts X r p) := rfl
        omega
      have htot : tot (Rg.parts X r p) ≤ 1048576 := by
        have e : ((p * r : Nat) : Int) = (p : Int) * (r : Int) := by simp
        omega
      have hpr : ((p * r : Nat) : Int) = (p : Int) * (r : Int) := by simp
      clear cB hOI hr3 hB1 hb2 hdv hw3 hz3 hT
      generalize Rg.parts X r p = Q at hpl HS HE HL htot hR2
      subst hpl
      go_wp2
      generalize w2.alloc (.cells #[.int .i64 (r : Int), .slice (some ⟨gI, 0, none⟩) Q.length caI] 29) = wA at s2 b2 hB2 hr2 hR2 ⊢
      go_loopw [8, 9, 10, 11] (fun lo hi al i wr => ∃ (k L H S : Nat), k ≤ X.length ∧ i = .int .i64 k ∧ lo = .int .i64 L ∧ hi = .int .i64 H ∧ al = .int .i64 S ∧
          (L = Q.length * r ∨ ∃ d ∈ X, L = Rg.load Q d.1) ∧ (H = 0 ∨ ∃ d ∈ X, H = Rg.load Q d.1) ∧ Hid (S = ((X.take k).map fun d => Rg.load Q d.1).sum) ∧ S ≤ k * 1000 ∧ L ≤ 1000 ∧ Below wA.heap.size wA wr) (fun _ _ _ i _ => X.length - (intOf i).toNat)
      case atStart => exact ⟨0, Q.length * r, 0, 0, Nat.zero_le _, rfl, by rw [hpr], rfl, rfl, .inl rfl, .inl rfl, rfl, by omega, by omega, Below.refl _ _⟩
      case round =>
        obtain ⟨k, L, H, S, hk, rfl, rfl, rfl, rfl, hL, hH, HSk, hS, hL1, hbr⟩ := hrel
        by_cases hlt : k < X.length
        · obtain ⟨⟨t0, t1⟩, -⟩ := s2.below hbr
          have hcell := (hr2.below hbr) k hlt
          obtain ⟨b, off, e, pp⟩ := hcell
          simp only [Option.some.injEq, Addr.mk.injEq, and_true] at e
          obtain ⟨rfl, rfl⟩ := e
          rw [Nat.zero_add] at pp
          obtain ⟨p0, -, -⟩ := pp
          have cL := implLoad (r : Int) (some ⟨gI, 0, none⟩) caI Q X[k].1 wr.drew (by omega) htot (hR2.below hbr.drew)
          have hm := List.getElem_mem hlt
          have hn := HL.out X[k].1
          have HS2 : Hid (S + Rg.load Q X[k].1 = ((X.take (k + 1)).map fun d => Rg.load Q d.1).sum) := by
            show S + _ = _
            rw [List.take_succ_eq_append_getElem hlt, List.map_append, List.sum_append, ← HSk.out]
            simp
          have hL2 : (Rg.load Q X[k].1 = Q.length * r ∨ ∃ d ∈ X, Rg.load Q X[k].1 = Rg.load Q d.1) := .inr ⟨X[k], hm, rfl⟩
          have hH2 : (Rg.load Q X[k].1 = 0 ∨ ∃ d ∈ X, Rg.load Q X[k].1 = Rg.load Q d.1) := .inr ⟨X[k], hm, rfl⟩
          clear HSk
          generalize Rg.load Q X[k].1 = n at cL hn HS2 hL2 hH2
          generalize X[k].1 = idk at p0 cL
          have hkn : (k : Int) < (X.length : Int) := by omega
          have hk0 : (0 : Int) ≤ (k : Int) := by omega
          have hn1 : n ≤ 1000 := by omega
          go_wp2_with fail
          go_region_held3 (fun wy => wy.cell? ⟨w2.heap.size, 0, none⟩ = some (.int .i64 (r : Int)) ∧ wy.cell? ⟨w2.heap.size, 1, none⟩ = some (.slice (some ⟨gI, 0, none⟩) Q.length caI) ∧ wy.cell? ⟨g, k * 3, none⟩ = some (.int .i64 idk))
            (first | exact ⟨t0, t1, p0⟩ | exact keepR3 ‹_› ‹_› | go_keep)
            (first | (go_at_call 18; refine cL.mono ?_; rintro e w5 ⟨rfl, hb5⟩) | fail)
          have hbr5 : Below wA.heap.size wA w5 := behind hbr.drew hb5
          clear cL p0 t0 t1 hm hb5
          by_cases h1 : n < L
          · by_cases h2 : H < n
            · go_wp2
              go_roundw
              case rel => exact ⟨k + 1, n, n, S + n, by omega, by go_num, by go_num, by go_num, by go_num, hL2, hH2, HS2, by omega, by omega, hbr5⟩
              case measure => simp [intOf]; omega
            · go_wp2
              go_roundw
              case rel => exact ⟨k + 1, n, H, S + n, by omega, by go_num, by go_num, by go_num, by go_num, hL2, hH, HS2, by omega, by omega, hbr5⟩
              case measure => simp [intOf]; omega
          · by_cases h2 : H < n
            · go_wp2
              go_roundw
              case rel => exact ⟨k + 1, L, n, S + n, by omega, by go_num, by go_num, by go_num, by go_num, hL, hH2, HS2, by omega, by omega, hbr5⟩
              case measure => simp [intOf]; omega
            · go_wp2
              go_roundw
              case rel => exact ⟨k + 1, L, H, S + n, by omega, by go_num, by go_num, by go_num, by go_num, hL, hH, HS2, by omega, by omega, hbr5⟩
              case measure => simp [intOf]; omega
        · have hS9 : (S : Int) = (Q.length : Int) * (r : Int) := by
            have h1 := HSk.out
            rw [List.take_of_length_le (by omega), HS.out, Nat.mul_comm] at h1
            rw [h1, hpr]
          have hd9 : (H : Int) - (L : Int) ≤ 1 := by
            rcases hH with h | ⟨d, hd, h⟩
            · omega
            · rcases hL with h' | ⟨e, he, h'⟩
              · have := HL.out d.1
                omega
              · have := HE.out d hd e he
                omega
          have hH9 : H ≤ 1000 := by
            rcases hH with h | ⟨d, hd, h⟩
            · omega
            · have := HL.out d.1
              omega
          have hB9 := behind hB2 hbr
          clear hH hL HSk
          go_wp2
          go_ret
          exact ⟨rfl, hB9⟩
  · go_enter Try.func4, Try.ntmps4
    go_wp2_with (go_at_call 9; go_in)
    go_wp2
    go_ret
    exact ⟨rfl, Below.refl _ _⟩

set_option maxRecDepth 100000 in
theorem lifted (os : Os) (started : os.Started) (H : Type) (enc : TypeId × Value → H) :
    ReturnsInHanded {} Try.checked os 4 .any (Rows.fnEvenSpec.pre6 enc Try.prog Try.f4 Rows.fnEvenRow.domain false) (Rows.fnEvenSpec.post enc Try.prog Try.f4 false true false false) := by
  refine returnsInHanded_of_change (C := Try.checked) own started (by kernel_rfl) Try.func4
    (ChangeSpec.witness6 (enc := enc) (C := Try.checked) false ⟨#[], #[.slice none 0 0], []⟩ 8 (by kernel_rfl) (by kernel_rfl) (by kernel_rfl) (by kernel_rfl)) ?_
  intro W base args ds gs before hval0 hW hcnd _
  have hval : ∀ (j : Nat) t v, Try.f4.params[j]? = some t → args[j]? = some v → Value.okWide Try.prog W .any base t v := hval0
  have hW' := hW
  obtain ⟨p, q, hA0, hV, rfl, hfz, hnd⟩ := hW
  have hA : DataW.TrodAll enc Try.prog W 0 (fun _ => true) true Try.f4.params.toList args.toList ds p := hA0
  rw [Try.params4] at hA hval
  obtain ⟨v0, vs0, d0, ds0, p0, q0, hargs, rfl, rfl, h0, r0⟩ := trodAll_cons hA
  obtain ⟨rfl, rfl, rfl⟩ := trodAll_nil r0
  obtain rfl : args = #[v0] := by cases args; simp_all
  obtain ⟨rfl, rfl⟩ := trodVars_none hV
  obtain ⟨a0, len0, cap0, rfl⟩ := okWide_slice Try.underlying22 (hval 0 22 v0 rfl rfl)
  have k0 := h0
  have lt0 : ∀ x ∈ p0, x.block < W.heap.size := by obtain ⟨m, hm⟩ := k0; exact DataW.trod_lt m _ _ _ hm
  obtain ⟨z0, w0⟩ : ∃ zs, IsRow .u8 W a0 len0 cap0 zs := by
    obtain ⟨fuel, hf⟩ := h0
    rcases open_ints Try.underlying22 Try.underlying5 (by kernel_rfl) hf with ⟨hcs, _⟩ | ⟨x, l, c, zs, hcs, _, hl, hm, hz, _, hcell, hwz⟩
    · simp [Value.cells] at hcs
      obtain ⟨rfl, rfl, rfl⟩ := hcs
      exact ⟨[], .inl ⟨rfl, rfl, rfl, rfl⟩⟩
    · simp [Value.cells] at hcs
      obtain ⟨rfl, rfl, rfl⟩ := hcs
      exact ⟨zs, .inr ⟨_, rfl, hl, hm, by simpa using hz, hcell, hwz⟩⟩
  clear hA0 hval0
  refine (walk a0 len0 cap0 z0 W w0).mono fun e W' ⟨he, bel⟩ => ?_
  subst he
  exact ⟨_, rfl, _, _, _, [], _, [], hW', trodAll_mk1 (shut_bool Try.underlying4 _), (trodAll_cons_mk (Below.trod laidOut (by kernel_rfl) (of_decide_eq_true (by kernel_rfl)) k0 bel lt0) trodAll_mk0), rfl, bel.frame _, fun h => by cases h⟩

theorem over : Rows.fnEvenRow.holds Try.pinned (OpenSpec.ofChange Rows.fnEvenSpec) :=
  OpenClaim.holds_of_wide 4 Try.f4 rfl rfl rfl rfl rfl rfl rfl ⟨rfl, rfl, rfl, rfl, rfl⟩ rfl rfl rfl rfl rfl (by kernel_rfl) Try.func4 (by kernel_rfl)
    (of_decide_eq_true (by kernel_rfl)) (by unfold Func.isWrapper; first | (rw [if_pos (by decide +kernel)]; kernel_rfl) | (rw [if_neg (by decide +kernel)]; exact ⟨rfl, rfl⟩))
    (fun os started H enc _ => lifted os started H enc)

end Go.Proofs.Ytcejeiakgmamdac.fnEven
namespace Go.Proofs.Ytcejeiakgmamdac
theorem fnEven_holds : Rows.FnEvenSaid := fnEven.over
#print axioms fnEven_holds
end Go.Proofs.Ytcejeiakgmamdac
