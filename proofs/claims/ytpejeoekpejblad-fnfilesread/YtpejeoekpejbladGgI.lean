/- What GetFile of the program comes to. -/
import Derived.Test.YtpejeoekpejbladFiW
import Derived.Test.YtpejeoekpejbladFpI
import Derived.Test.YtpejeoekpejbladGfS
import Derived.Deep.Cut
import Derived.Laws.Cover3
import Derived.Laws.StructEq
import Derived.Tactics2
namespace Go.Proofs.Ytpejeoekpejblad.Wk
set_option linter.unusedVariables false
open Go.ChangeShapes Go.WideShapes Go.ChangeAt Go.RowKit

theorem keepS4 {w w' : World} {a1 a2 a3 a4 : Addr} {v1 v2 v3 v4 : Value} (h : w.cell? a1 = some v1 ∧ w.cell? a2 = some v2 ∧ w.cell? a3 = some v3 ∧ w.cell? a4 = some v4) (hb : Below w.heap.size w w') : w'.cell? a1 = some v1 ∧ w'.cell? a2 = some v2 ∧ w'.cell? a3 = some v3 ∧ w'.cell? a4 = some v4 := ⟨cellF h.1 hb, cellF h.2.1 hb, cellF h.2.2.1 hb, cellF h.2.2.2 hb⟩
theorem crc4_bytes (X : Nat) (a b c d : UInt8) : crc4 X = [a, b, c, d] ↔ (X : Int) / 16777216 % 256 = (a.toNat : Int) ∧ (X : Int) / 65536 % 256 = (b.toNat : Int) ∧ (X : Int) / 256 % 256 = (c.toNat : Int) ∧ (X : Int) % 256 = (d.toNat : Int) := by
  have h : ∀ (n : Nat) (u : UInt8), n.toUInt8 = u ↔ (n : Int) % 256 = (u.toNat : Int) := by
    intro n u
    constructor
    · rintro rfl
      simp
    · intro h
      apply UInt8.toNat.inj
      simp
      omega
  unfold crc4
  simp only [List.cons.injEq, and_true, h]
  rfl
set_option maxHeartbeats 2000000 in
theorem eqArr4 (a0 a1 a2 a3 b0 b1 b2 b3 : Int) (w : World) :
    (Op.equalIn 10000 48 (.agg #[.int .u8 a0, .int .u8 a1, .int .u8 a2, .int .u8 a3]) (.agg #[.int .u8 b0, .int .u8 b1, .int .u8 b2, .int .u8 b3])).run Try.prog w = .ok (a0 == b0 && (a1 == b1 && (a2 == b2 && a3 == b3))) w := by
  have u3 := Try.underlying5
  have i3 := Try.isAgg5
  have z3 := Try.sizeOf5
  rw [show (10000 : Nat) = 9999 + 1 from rfl, Op.equalIn]
  simp only [Sem.run_bind, run_underlying Try.underlying48, Result.andThen_ok]
  simp only [Std.Legacy.Range.forIn_eq_forIn_range', Std.Legacy.Range.size, Nat.sub_zero, Nat.add_sub_cancel, Nat.div_one, List.range'_succ, List.range'_zero, List.forIn_cons, List.forIn_nil]
  go_simp
  by_cases h0 : a0 = b0
  · by_cases h1 : a1 = b1
    · by_cases h2 : a2 = b2
      · by_cases h3 : a3 = b3
        · simp [h0, h1, h2, h3]
        · simp [h0, h1, h2, h3]
      · simp [h0, h1, h2]
    · simp [h0, h1]
  · simp [h0]
theorem eqSame4 (a0 a1 a2 a3 : Int) (w : World) : (Op.equalIn 10000 48 (.agg #[.int .u8 a0, .int .u8 a1, .int .u8 a2, .int .u8 a3]) (.agg #[.int .u8 a0, .int .u8 a1, .int .u8 a2, .int .u8 a3])).run Try.prog w = .ok true w := by
  rw [eqArr4]
  simp
theorem eqOther4 {a0 a1 a2 a3 b0 b1 b2 b3 : Int} (h : ¬ (a0 = b0 ∧ a1 = b1 ∧ a2 = b2 ∧ a3 = b3)) (w : World) : (Op.equalIn 10000 48 (.agg #[.int .u8 a0, .int .u8 a1, .int .u8 a2, .int .u8 a3]) (.agg #[.int .u8 b0, .int .u8 b1, .int .u8 b2, .int .u8 b3])).run Try.prog w = .ok false w := by
  rw [eqArr4]
  have e : (a0 == b0 && (a1 == b1 && (a2 == b2 && a3 == b3))) = false := by
    cases hh : (a0 == b0 && (a1 == b1 && (a2 == b2 && a3 == b3))) with
    | false => rfl
    | true =>
      simp only [Bool.and_eq_true, beq_iff_eq] at hh
      exact absurd hh h
  rw [e]
theorem fIn_file {l : List UInt8} {T Q N : Int} {D : Bool} {data : List UInt8} (h : fIn l = some (T, Q, N, D, data)) : data.length ≤ 200 := by
  have hB := (fIn_some _ _ h).1
  unfold fileB at hB
  simp only [Bool.and_eq_true, decide_eq_true_eq] at hB
  exact hB.2.1
theorem take_sub {w : World} {a : Option Addr} {l : List UInt8} (h : RdA w a l) (k : Nat) : RdA w a (l.take k) := h.take k

set_option maxHeartbeats 8000000 in
set_option maxRecDepth 100000 in
theorem implGetFile (a : Option Addr) (cap : Nat) (l : List UInt8) (w : World) (hl : l.length ≤ 1048576) (hcap : l.length ≤ cap) (hcm : cap ≤ maxLen) (hr : RdA w a l) :
    Calls Try.prog 10 #[.slice a l.length cap] w fun e w' => FileRet w (implF l) e w' ∧ Below w.heap.size w w' := by
  have b0 := bel1 w (.cells #[.int .i64 0, .int .i64 0, .int .i64 0, .bool false, .slice none 0 0] 27)
  have s0 := slot5fNew w (.int .i64 0) (.int .i64 0) (.int .i64 0) (.bool false) (.slice none 0 0) 27
  unfold maxLen at hcm
  by_cases h4 : l.length < 4
  · have hR : implF l = none := by unfold implF; rw [if_pos h4]
    rw [hR]
    clear hR
    obtain ⟨⟨r0, r1, r2, r3, r4⟩, f0, f1, f2, f3, f4⟩ := (show _ from s0)
    have h4' : (l.length : Int) < 4 := by omega
    go_enter Try.func10, Try.ntmps10
    go_wp2
    exact bodyPost_ret (v := .tuple #[.agg #[.int .i64 0, .int .i64 0, .int .i64 0, .bool false, .slice none 0 0], .bool false]) (by simp [results, Try.results10, go_sem, r0, r1, r2, r3, r4]) rfl ⟨rfl, b0⟩
  · obtain ⟨E, hE⟩ : ∃ E, l.length = E + 4 := ⟨l.length - 4, by omega⟩
    have hR : implF l = match fIn (l.take E) with
      | none => none
      | some x => if crc4 (Mt.crcN (l.take E)) = l.drop E then some x else none := by
      unfold implF
      rw [if_neg h4, show l.length - 4 = E from by omega]
      rfl
    rw [hR]
    have hlb : (l.take E).length = E := by rw [List.length_take]; omega
    obtain ⟨b, off, rfl, -⟩ := hr 0 (by omega)
    have hrt : ∀ w', Below w.heap.size w w' → RdA w' (some ⟨b, off, none⟩) (l.take E) := fun w' hb => (hr.below hb).take E
    have cF := fileIn (some ⟨b, off, none⟩) (l.take E) (w.alloc (.cells #[.int .i64 0, .int .i64 0, .int .i64 0, .bool false, .slice none 0 0] 27)) (by omega) (hrt _ b0)
    have cC := fun (wx : World) (h : Below w.heap.size w wx) => sumBytes (some ⟨b, off, none⟩) E (l.take E) wx (by omega) (hrt wx h)
    rw [hlb] at cF
    simp only [hlb] at cC
    have d0 : (l.drop E) = [l[E], l[E + 1], l[E + 2], l[E + 3]] := by
      apply List.ext_getElem
      · rw [List.length_drop]; simp; omega
      · intro i h1 h2
        rw [List.getElem_drop]
        match i, h2 with
        | 0, _ => rfl
        | 1, _ => rfl
        | 2, _ => rfl
        | 3, _ => rfl
    have hcell : ∀ w', Below w.heap.size w w' → (fun wy : World => wy.cell? ⟨b, off + E, none⟩ = some (.int .u8 (l[E].toNat : Int)) ∧ wy.cell? ⟨b, off + E + 1, none⟩ = some (.int .u8 (l[E + 1].toNat : Int)) ∧ wy.cell? ⟨b, off + E + 2, none⟩ = some (.int .u8 (l[E + 2].toNat : Int)) ∧ wy.cell? ⟨b, off + E + 3, none⟩ = some (.int .u8 (l[E + 3].toNat : Int))) w' := by
      intro w' hb
      have k : ∀ i (h : i < l.length), w'.cell? ⟨b, off + i, none⟩ = some (.int .u8 (l[i].toNat : Int)) := by
        intro i h
        obtain ⟨b', off', e', hc⟩ := (hr.below hb) i h
        cases e'
        exact hc
      exact ⟨k E (by omega), k (E + 1) (by omega), k (E + 2) (by omega), k (E + 3) (by omega)⟩
    have hInt : (l.length : Int) - 4 = (E : Int) := by omega
    have h4' : ¬ (E : Int) < 0 := by omega
    have hEl : E ≤ l.length := by omega
    have hEE : (E : Int) ≤ (E : Int) + 4 := by omega
    have hcE : ¬ cap = E := by omega
    have hEc : E ≤ cap := by omega
    clear hR h4
    cases hF : fIn (l.take E) with
    | none =>
      rw [hF] at cF
      go_enter Try.func10, Try.ntmps10
      go_wp2_with fail
      refine cF.mono ?_
      rintro e w2 ⟨⟨T, Q, N, D, ad, k, c, ok, rfl, rfl⟩, hb2⟩
      have b2 := behind b0 hb2
      have b3 := bel1 w2 (.cells #[.int .i64 T, .int .i64 Q, .int .i64 N, .bool D, .slice ad k c] 27)
      have hR := (s0.below hb2).below b3
      have hB := behind b2 b3
      generalize (l[E].toNat : Int) = y0 at hcell
      generalize (l[E + 1].toNat : Int) = y1 at hcell
      generalize (l[E + 2].toNat : Int) = y2 at hcell
      generalize (l[E + 3].toNat : Int) = y3 at hcell
      have hS := hcell _ hB
      go_upto_region 6 with fail
      refine wp_region_held_drew (S := fun wy => wy.cell? ⟨b, off + E, none⟩ = some (.int .u8 y0) ∧ wy.cell? ⟨b, off + E + 1, none⟩ = some (.int .u8 y1) ∧ wy.cell? ⟨b, off + E + 2, none⟩ = some (.int .u8 y2) ∧ wy.cell? ⟨b, off + E + 3, none⟩ = some (.int .u8 y3)) (by kernel_rfl) hS (fun hHeld => ?_)
      refine wpAnyH_take (i := 0) (oi := ?_) (v := ?_) ?_ ?_ ?_ ?_ ?_ ?_ (by assumption) ?_
      rotate_left 2
      · simp only [List.getElem?_toArray, List.getElem?_cons_zero]
        rfl
      · kernel_rfl
      · kernel_rfl
      · kernel_rfl
      · exact fun _ _ _ h => h
      · refine Or.inl ⟨by kernel_rfl, ?_⟩
        intro wS hSw
        try dsimp only at hSw
        go_simp
        try with_reducible rfl
      simp only [Act.put, List.setIfInBounds_toArray, List.set_cons_zero, List.set_cons_succ]
      refine wpAnyH_take (i := 1) (oi := ?_) (v := ?_) ?_ ?_ ?_ ?_ ?_ ?_ (by assumption) ?_
      rotate_left 2
      · simp only [List.getElem?_toArray, List.getElem?_cons_succ, List.getElem?_cons_zero]
        rfl
      · kernel_rfl
      · kernel_rfl
      · kernel_rfl
      · exact fun _ _ _ h => h
      · refine Or.inl ⟨by kernel_rfl, ?_⟩
        intro wS hSw
        try dsimp only at hSw
        go_simp
        try with_reducible rfl
      simp only [Act.put, List.setIfInBounds_toArray, List.set_cons_zero, List.set_cons_succ]
      refine wpAnyH_take (i := 2) (oi := ?_) (v := ?_) ?_ ?_ ?_ ?_ ?_ ?_ (by assumption) ?_
      rotate_left 2
      · simp only [List.getElem?_toArray, List.getElem?_cons_succ, List.getElem?_cons_zero]
        rfl
      · kernel_rfl
      · kernel_rfl
      · kernel_rfl
      · exact fun _ _ _ h => h
      · refine Or.inl ⟨by kernel_rfl, ?_⟩
        intro wS hSw
        try dsimp only at hSw
        go_simp
        try with_reducible rfl
      simp only [Act.put, List.setIfInBounds_toArray, List.set_cons_zero, List.set_cons_succ]
      refine wpAnyH_take (i := 3) (oi := ?_) (v := undef) ?_ ?_ ?_ ?_ ?_ ?_ (by assumption) ?_
      rotate_left 1
      · simp only [List.getElem?_toArray, List.getElem?_cons_succ, List.getElem?_cons_zero]
        rfl
      · kernel_rfl
      · kernel_rfl
      · kernel_rfl
      · exact fun _ _ _ h => h
      · exact Or.inr ⟨by kernel_rfl, rfl⟩
      simp only [Act.put, List.setIfInBounds_toArray, List.set_cons_zero, List.set_cons_succ]
      refine wpAnyH_take (i := 4) (oi := ?_) (v := undef) ?_ ?_ ?_ ?_ ?_ ?_ (by assumption) ?_
      rotate_left 1
      · simp only [List.getElem?_toArray, List.getElem?_cons_succ, List.getElem?_cons_zero]
        rfl
      · kernel_rfl
      · kernel_rfl
      · kernel_rfl
      · exact fun _ _ _ h => h
      · exact Or.inr ⟨by kernel_rfl, rfl⟩
      simp only [Act.put, List.setIfInBounds_toArray, List.set_cons_zero, List.set_cons_succ]
      refine wpAnyH_take (i := 5) (oi := ?_) (v := undef) ?_ ?_ ?_ ?_ ?_ ?_ (by assumption) ?_
      rotate_left 1
      · simp only [List.getElem?_toArray, List.getElem?_cons_succ, List.getElem?_cons_zero]
        rfl
      · kernel_rfl
      · kernel_rfl
      · kernel_rfl
      · exact fun _ _ _ h => h
      · exact Or.inr ⟨by kernel_rfl, rfl⟩
      simp only [Act.put, List.setIfInBounds_toArray, List.set_cons_zero, List.set_cons_succ]
      refine wpAnyH_take (i := 6) (oi := ?_) (v := undef) ?_ ?_ ?_ ?_ ?_ ?_ (by assumption) ?_
      rotate_left 1
      · simp only [List.getElem?_toArray, List.getElem?_cons_succ, List.getElem?_cons_zero]
        rfl
      · kernel_rfl
      · kernel_rfl
      · kernel_rfl
      · exact fun _ _ _ h => h
      · exact Or.inr ⟨by kernel_rfl, rfl⟩
      simp only [Act.put, List.setIfInBounds_toArray, List.set_cons_zero, List.set_cons_succ]
      refine wpAnyH_take (i := 7) (oi := ?_) (v := undef) ?_ ?_ ?_ ?_ ?_ ?_ (by assumption) ?_
      rotate_left 1
      · simp only [List.getElem?_toArray, List.getElem?_cons_succ, List.getElem?_cons_zero]
        rfl
      · kernel_rfl
      · kernel_rfl
      · kernel_rfl
      · exact fun _ _ _ h => h
      · exact Or.inr ⟨by kernel_rfl, rfl⟩
      simp only [Act.put, List.setIfInBounds_toArray, List.set_cons_zero, List.set_cons_succ]
      refine wpAnyH_take (i := 8) (oi := ?_) (v := undef) ?_ ?_ ?_ ?_ ?_ ?_ (by assumption) ?_
      rotate_left 1
      · simp only [List.getElem?_toArray, List.getElem?_cons_succ, List.getElem?_cons_zero]
        rfl
      · kernel_rfl
      · kernel_rfl
      · kernel_rfl
      · exact fun _ _ _ h => h
      · exact Or.inr ⟨by kernel_rfl, rfl⟩
      simp only [Act.put, List.setIfInBounds_toArray, List.set_cons_zero, List.set_cons_succ]
      refine wpAnyH_take (i := 9) (oi := ?_) (v := undef) ?_ ?_ ?_ ?_ ?_ ?_ (by assumption) ?_
      rotate_left 1
      · simp only [List.getElem?_toArray, List.getElem?_cons_succ, List.getElem?_cons_zero]
        rfl
      · kernel_rfl
      · kernel_rfl
      · kernel_rfl
      · exact fun _ _ _ h => h
      · exact Or.inr ⟨by kernel_rfl, rfl⟩
      simp only [Act.put, List.setIfInBounds_toArray, List.set_cons_zero, List.set_cons_succ]
      refine wpAnyH_take (i := 10) (oi := ?_) (v := undef) ?_ ?_ ?_ ?_ ?_ ?_ (by assumption) ?_
      rotate_left 1
      · simp only [List.getElem?_toArray, List.getElem?_cons_succ, List.getElem?_cons_zero]
        rfl
      · kernel_rfl
      · kernel_rfl
      · kernel_rfl
      · exact fun _ _ _ h => h
      · exact Or.inr ⟨by kernel_rfl, rfl⟩
      simp only [Act.put, List.setIfInBounds_toArray, List.set_cons_zero, List.set_cons_succ]
      refine wpAnyH_take (i := 11) (oi := ?_) (v := ?_) ?_ ?_ ?_ ?_ ?_ ?_ (by assumption) ?_
      rotate_left 2
      · simp only [List.getElem?_toArray, List.getElem?_cons_succ, List.getElem?_cons_zero]
        rfl
      · kernel_rfl
      · kernel_rfl
      · kernel_rfl
      · exact fun _ _ _ h => h
      · refine Or.inl ⟨by kernel_rfl, ?_⟩
        intro wS hSw
        try dsimp only at hSw
        go_simp
        try with_reducible rfl
      simp only [Act.put, List.setIfInBounds_toArray, List.set_cons_zero, List.set_cons_succ]
      refine wpAnyH_done (by kernel_rfl) ?_ _
      obtain ⟨⟨r0, r1, r2, r3, r4⟩, f0, f1, f2, f3, f4⟩ := (show _ from hR)
      go_wp2
      obtain ⟨z0, z1, z2, z3, z4⟩ := (hR.set (.int .i64 0) (.int .i64 0) (.int .i64 0) (.bool false) (.slice none 0 0)).1
      exact bodyPost_ret (v := .tuple #[.agg #[.int .i64 0, .int .i64 0, .int .i64 0, .bool false, .slice none 0 0], .bool false]) (by simp [results, Try.results10, go_sem, z0, z1, z2, z3, z4]) rfl ⟨rfl, (set5 hB (Nat.le_refl _) _ _ _ _ _).drew⟩
    | some x =>
      obtain ⟨T, Q, N, D, data⟩ := x
      rw [hF] at cF
      have hk := fIn_file hF
      have e5 : crc4 (Mt.crcN (l.take E)) = l.drop E ↔ ((Mt.crcN (l.take E) : Nat) : Int) / 16777216 % 256 = (l[E].toNat : Int) ∧ ((Mt.crcN (l.take E) : Nat) : Int) / 65536 % 256 = (l[E + 1].toNat : Int) ∧ ((Mt.crcN (l.take E) : Nat) : Int) / 256 % 256 = (l[E + 2].toNat : Int) ∧ ((Mt.crcN (l.take E) : Nat) : Int) % 256 = (l[E + 3].toNat : Int) := by
        rw [d0]
        exact crc4_bytes _ _ _ _ _
      generalize (l[E].toNat : Int) = y0 at hcell e5
      generalize (l[E + 1].toNat : Int) = y1 at hcell e5
      generalize (l[E + 2].toNat : Int) = y2 at hcell e5
      generalize (l[E + 3].toNat : Int) = y3 at hcell e5
      simp only []
      by_cases hC : crc4 (Mt.crcN (l.take E)) = l.drop E
      · rw [if_pos hC]
        obtain ⟨rfl, rfl, rfl, rfl⟩ := e5.1 hC
        clear e5 hC d0
        generalize Mt.crcN (l.take E) = X at cC hcell
        unfold sum4 at cC
        go_enter Try.func10, Try.ntmps10
        go_wp2_with fail
        refine cF.mono ?_
        rintro e w2 ⟨⟨T', Q', N', D', ad, k, c, ok, rfl, rfl, e1, e2, e3, e4, e5, hrd⟩, hb2⟩
        simp only [] at e1 e2 e3 e4 e5 hrd
        subst e1 e2 e3 e4 e5
        have b2 := behind b0 hb2
        have b3 := bel1 w2 (.cells #[.int .i64 T, .int .i64 Q, .int .i64 N, .bool D, .slice ad data.length c] 27)
        have hR := (s0.below hb2).below b3
        have hX := slot5fNew w2 (.int .i64 T) (.int .i64 Q) (.int .i64 N) (.bool D) (.slice ad data.length c) 27
        have hrx := hrd.below b3
        have hB := behind b2 b3
        have hS := hcell _ hB
        have cD := fun (wx : World) (h : Below (w2.alloc (.cells #[.int .i64 T, .int .i64 Q, .int .i64 N, .bool D, .slice ad data.length c] 27)).drew.heap.size (w2.alloc (.cells #[.int .i64 T, .int .i64 Q, .int .i64 N, .bool D, .slice ad data.length c] 27)).drew wx) => cC wx (behind hB.drew h)
        go_upto_region 6 with fail
        refine wp_region_held_drew (S := fun wy => wy.cell? ⟨b, off + E, none⟩ = some (.int .u8 ((X : Int) / 16777216 % 256)) ∧ wy.cell? ⟨b, off + E + 1, none⟩ = some (.int .u8 ((X : Int) / 65536 % 256)) ∧ wy.cell? ⟨b, off + E + 2, none⟩ = some (.int .u8 ((X : Int) / 256 % 256)) ∧ wy.cell? ⟨b, off + E + 3, none⟩ = some (.int .u8 ((X : Int) % 256))) (by kernel_rfl) hS (fun hHeld => ?_)
        refine wpAnyH_take (i := 0) (oi := ?_) (v := ?_) ?_ ?_ ?_ ?_ ?_ ?_ (by assumption) ?_
        rotate_left 2
        · simp only [List.getElem?_toArray, List.getElem?_cons_zero]
          rfl
        · kernel_rfl
        · kernel_rfl
        · kernel_rfl
        · exact fun _ _ _ h => h
        · refine Or.inl ⟨by kernel_rfl, ?_⟩
          intro wS hSw
          try dsimp only at hSw
          go_simp
          try with_reducible rfl
        simp only [Act.put, List.setIfInBounds_toArray, List.set_cons_zero, List.set_cons_succ]
        refine wpAnyH_take (i := 1) (oi := ?_) (v := ?_) ?_ ?_ ?_ ?_ ?_ ?_ (by assumption) ?_
        rotate_left 2
        · simp only [List.getElem?_toArray, List.getElem?_cons_succ, List.getElem?_cons_zero]
          rfl
        · kernel_rfl
        · kernel_rfl
        · kernel_rfl
        · exact fun _ _ _ h => h
        · refine Or.inl ⟨by kernel_rfl, ?_⟩
          intro wS hSw
          try dsimp only at hSw
          go_simp
          try with_reducible rfl
        simp only [Act.put, List.setIfInBounds_toArray, List.set_cons_zero, List.set_cons_succ]
        refine wpAnyH_take (i := 2) (oi := ?_) (v := ?_) ?_ ?_ ?_ ?_ ?_ ?_ (by assumption) ?_
        rotate_left 2
        · simp only [List.getElem?_toArray, List.getElem?_cons_succ, List.getElem?_cons_zero]
          rfl
        · kernel_rfl
        · kernel_rfl
        · kernel_rfl
        · exact fun _ _ _ h => h
        · refine Or.inl ⟨by kernel_rfl, ?_⟩
          intro wS hSw
          try dsimp only at hSw
          go_simp
          try with_reducible rfl
        simp only [Act.put, List.setIfInBounds_toArray, List.set_cons_zero, List.set_cons_succ]
        refine wpAnyH_take (i := 3) (oi := ?_) (v := ?_) ?_ ?_ ?_ ?_ ?_ ?_ (by assumption) ?_
        rotate_left 2
        · simp only [List.getElem?_toArray, List.getElem?_cons_succ, List.getElem?_cons_zero]
          rfl
        · kernel_rfl
        · kernel_rfl
        · kernel_rfl
        · exact fun _ _ _ h => h
        · refine Or.inl ⟨by kernel_rfl, ?_⟩
          intro wS hSw
          try dsimp only at hSw
          go_simp
          try with_reducible rfl
        simp only [Act.put, List.setIfInBounds_toArray, List.set_cons_zero, List.set_cons_succ]
        refine wpAnyH_take (i := 5) (oi := ?_) (v := ?_) ?_ ?_ ?_ ?_ ?_ ?_ (by assumption) ?_
        rotate_left 2
        · simp only [List.getElem?_toArray, List.getElem?_cons_succ, List.getElem?_cons_zero]
          rfl
        · kernel_rfl
        · kernel_rfl
        · kernel_rfl
        · exact fun _ _ _ h => h
        · refine Or.inl ⟨by kernel_rfl, ?_⟩
          intro wS hSw
          try dsimp only at hSw
          go_simp
          try with_reducible rfl
        simp only [Act.put, List.setIfInBounds_toArray, List.set_cons_zero, List.set_cons_succ]
        refine wpAnyH_take (i := 6) (oi := ?_) (v := ?_) ?_ ?_ ?_ ?_ ?_ ?_ (by assumption) ?_
        rotate_left 2
        · simp only [List.getElem?_toArray, List.getElem?_cons_succ, List.getElem?_cons_zero]
          rfl
        · kernel_rfl
        · kernel_rfl
        · kernel_rfl
        · exact fun _ _ _ h => h
        · refine Or.inl ⟨by kernel_rfl, ?_⟩
          intro wS hSw
          try dsimp only at hSw
          go_simp
          try with_reducible rfl
        simp only [Act.put, List.setIfInBounds_toArray, List.set_cons_zero, List.set_cons_succ]
        refine wpAnyH_take (i := 7) (oi := ?_) (v := ?_) ?_ ?_ ?_ ?_ ?_ ?_ (by assumption) ?_
        rotate_left 2
        · simp only [List.getElem?_toArray, List.getElem?_cons_succ, List.getElem?_cons_zero]
          rfl
        · kernel_rfl
        · kernel_rfl
        · kernel_rfl
        · exact fun _ _ _ h => h
        · refine Or.inl ⟨by kernel_rfl, ?_⟩
          intro wS hSw
          try dsimp only at hSw
          go_simp
          try with_reducible rfl
        simp only [Act.put, List.setIfInBounds_toArray, List.set_cons_zero, List.set_cons_succ]
        refine wpAnyH_take (i := 8) (oi := ?_) (v := ?_) ?_ ?_ ?_ ?_ ?_ ?_ (by assumption) ?_
        rotate_left 2
        · simp only [List.getElem?_toArray, List.getElem?_cons_succ, List.getElem?_cons_zero]
          rfl
        · kernel_rfl
        · kernel_rfl
        · kernel_rfl
        · exact fun _ _ _ h => h
        · refine Or.inl ⟨by kernel_rfl, ?_⟩
          intro wS hSw
          try dsimp only at hSw
          have hFact := run_arrayAt (P := Try.prog) wS 48 5 4 (some ⟨b, off + E, none⟩) 4 (cap - E) Try.underlying48 (Nat.le_refl _)
          go_simp
          try with_reducible rfl
        simp only [Act.put, List.setIfInBounds_toArray, List.set_cons_zero, List.set_cons_succ]
        refine wpAnyH_take (i := 9) (oi := ?_) (v := ?_) ?_ ?_ ?_ ?_ ?_ ?_ (by assumption) ?_
        rotate_left 2
        · simp only [List.getElem?_toArray, List.getElem?_cons_succ, List.getElem?_cons_zero]
          rfl
        · kernel_rfl
        · kernel_rfl
        · kernel_rfl
        · exact fun _ _ _ h => h
        · refine Or.inl ⟨by kernel_rfl, ?_⟩
          intro wS hSw
          try dsimp only at hSw
          go_simp
          try with_reducible rfl
        simp only [Act.put, List.setIfInBounds_toArray, List.set_cons_zero, List.set_cons_succ]
        refine wpAnyH_ready (rs := [4]) (by kernel_rfl) (by simp) ?_
        refine AllReadyH.cons rfl (fun K hK => ?_) ?_
        rotate_left
        · exact AllReadyH.nil
        go_simp
        refine (cD _ (Below.refl _ _)).mono ?_
        rintro e w4 ⟨rfl, hb4⟩
        go_wp2_with fail
        refine hK.out _ _ ?_ (fun hHeld => ?_)
        · exact keepS4 hHeld hb4
        clear hK K
        try simp only [Act.put, List.setIfInBounds_toArray, List.set_cons_zero, List.set_cons_succ]
        refine wpAnyH_take (i := 10) (oi := ?_) (v := ?_) ?_ ?_ ?_ ?_ ?_ ?_ (by assumption) ?_
        rotate_left 2
        · simp only [List.getElem?_toArray, List.getElem?_cons_succ, List.getElem?_cons_zero]
          rfl
        · kernel_rfl
        · kernel_rfl
        · kernel_rfl
        · exact fun _ _ _ h => h
        · refine Or.inl ⟨by kernel_rfl, ?_⟩
          intro wS hSw
          try dsimp only at hSw
          have hFact := eqSame4 ((X : Int) / 16777216 % 256) ((X : Int) / 65536 % 256) ((X : Int) / 256 % 256) ((X : Int) % 256) wS
          go_simp
          try with_reducible rfl
        simp only [Act.put, List.setIfInBounds_toArray, List.set_cons_zero, List.set_cons_succ]
        refine wpAnyH_take (i := 11) (oi := ?_) (v := ?_) ?_ ?_ ?_ ?_ ?_ ?_ (by assumption) ?_
        rotate_left 2
        · simp only [List.getElem?_toArray, List.getElem?_cons_succ, List.getElem?_cons_zero]
          rfl
        · kernel_rfl
        · kernel_rfl
        · kernel_rfl
        · exact fun _ _ _ h => h
        · refine Or.inl ⟨by kernel_rfl, ?_⟩
          intro wS hSw
          try dsimp only at hSw
          go_simp
          try with_reducible rfl
        simp only [Act.put, List.setIfInBounds_toArray, List.set_cons_zero, List.set_cons_succ]
        refine wpAnyH_done (by kernel_rfl) ?_ _
        have hRx := hR.below (w := (w2.alloc (.cells #[.int .i64 T, .int .i64 Q, .int .i64 N, .bool D, .slice ad data.length c] 27)).drew) hb4
        have hXx := hX.below (w := (w2.alloc (.cells #[.int .i64 T, .int .i64 Q, .int .i64 N, .bool D, .slice ad data.length c] 27)).drew) hb4
        have hrx := hrx.below (w := (w2.alloc (.cells #[.int .i64 T, .int .i64 Q, .int .i64 N, .bool D, .slice ad data.length c] 27)).drew) hb4
        have hBx := behind hB.drew hb4
        obtain ⟨⟨x0, x1, x2, x3, x4⟩, g0, g1, g2, g3, g4⟩ := (show _ from hXx)
        have hdl : data.length ≤ 1048576 := by omega
        have hw2 := hX.lt
        have hw4 : w2.heap.size < w4.heap.size := Nat.lt_of_lt_of_le hw2 hb4.size
        have hww : w.heap.size ≤ w2.heap.size := b2.size
        have cY := copyBytes ad c data w4 hdl hrx
        clear cC cD hcell hS hrd hrt hr cF
        go_wp2_with fail
        refine cY.mono ?_
        rintro e w5 ⟨rfl, ho5, hb5⟩
        clear x0 x1 x2 x3 x4 g0 g1 g2 g3 g4
        have hX5 := hXx.below hb5
        have hR5 := hRx.below hb5
        have hB5 := behind hBx hb5
        obtain ⟨⟨x0, x1, x2, x3, x4⟩, g0, g1, g2, g3, g4⟩ := id hX5
        obtain ⟨⟨r0, r1, r2, r3, r4⟩, f0, f1, f2, f3, f4⟩ := id hR5
        have hne : w.heap.size ≠ w2.heap.size := by have := s0.lt; have := hb2.size; omega
        go_wp2
        obtain ⟨z0, z1, z2, z3, z4⟩ := ((hR5.other (c := w2.heap.size) (o := 4) (x := .slice (some ⟨w4.heap.size, 0, none⟩) data.length data.length) hne).set (.int .i64 T) (.int .i64 Q) (.int .i64 N) (.bool D) (.slice (some ⟨w4.heap.size, 0, none⟩) data.length data.length)).1
        refine bodyPost_ret (v := .tuple #[.agg #[.int .i64 T, .int .i64 Q, .int .i64 N, .bool D, .slice (some ⟨w4.heap.size, 0, none⟩) data.length data.length], .bool true]) (by simp [results, Try.results10, go_sem, z0, z1, z2, z3, z4]) rfl ⟨⟨_, _, rfl, ?_⟩, set5 (hB5.setCell (p := ⟨w2.heap.size, 4, none⟩) hww _) (Nat.le_refl _) _ _ _ _ _⟩
        have k1 : w.heap.size < w4.heap.size := by omega
        exact ownBase (ownsRow_setCell_below (ownsRow_setCell_below (ownsRow_setCell_below (ownsRow_setCell_below (ownsRow_setCell_below (ownsRow_setCell_below ho5 (a := ⟨w2.heap.size, 4, none⟩) hw4 _) (a := ⟨w.heap.size, 0, none⟩) k1 _) (a := ⟨w.heap.size, 1, none⟩) k1 _) (a := ⟨w.heap.size, 2, none⟩) k1 _) (a := ⟨w.heap.size, 3, none⟩) k1 _) (a := ⟨w.heap.size, 4, none⟩) k1 _) (Nat.le_of_lt k1)
      · rw [if_neg hC]
        have hN := fun h => hC (e5.2 h)
        clear e5 hC d0
        generalize Mt.crcN (l.take E) = X at cC hN
        unfold sum4 at cC
        go_enter Try.func10, Try.ntmps10
        go_wp2_with fail
        refine cF.mono ?_
        rintro e w2 ⟨⟨T', Q', N', D', ad, k, c, ok, rfl, rfl, e1, e2, e3, e4, e5, hrd⟩, hb2⟩
        simp only [] at e1 e2 e3 e4 e5 hrd
        subst e1 e2 e3 e4 e5
        have b2 := behind b0 hb2
        have b3 := bel1 w2 (.cells #[.int .i64 T, .int .i64 Q, .int .i64 N, .bool D, .slice ad data.length c] 27)
        have hR := (s0.below hb2).below b3
        have hB := behind b2 b3
        have hS := hcell _ hB
        have cD := fun (wx : World) (h : Below (w2.alloc (.cells #[.int .i64 T, .int .i64 Q, .int .i64 N, .bool D, .slice ad data.length c] 27)).drew.heap.size (w2.alloc (.cells #[.int .i64 T, .int .i64 Q, .int .i64 N, .bool D, .slice ad data.length c] 27)).drew wx) => cC wx (behind hB.drew h)
        go_upto_region 6 with fail
        refine wp_region_held_drew (S := fun wy => wy.cell? ⟨b, off + E, none⟩ = some (.int .u8 y0) ∧ wy.cell? ⟨b, off + E + 1, none⟩ = some (.int .u8 y1) ∧ wy.cell? ⟨b, off + E + 2, none⟩ = some (.int .u8 y2) ∧ wy.cell? ⟨b, off + E + 3, none⟩ = some (.int .u8 y3)) (by kernel_rfl) hS (fun hHeld => ?_)
        refine wpAnyH_take (i := 0) (oi := ?_) (v := ?_) ?_ ?_ ?_ ?_ ?_ ?_ (by assumption) ?_
        rotate_left 2
        · simp only [List.getElem?_toArray, List.getElem?_cons_zero]
          rfl
        · kernel_rfl
        · kernel_rfl
        · kernel_rfl
        · exact fun _ _ _ h => h
        · refine Or.inl ⟨by kernel_rfl, ?_⟩
          intro wS hSw
          try dsimp only at hSw
          go_simp
          try with_reducible rfl
        simp only [Act.put, List.setIfInBounds_toArray, List.set_cons_zero, List.set_cons_succ]
        refine wpAnyH_take (i := 1) (oi := ?_) (v := ?_) ?_ ?_ ?_ ?_ ?_ ?_ (by assumption) ?_
        rotate_left 2
        · simp only [List.getElem?_toArray, List.getElem?_cons_succ, List.getElem?_cons_zero]
          rfl
        · kernel_rfl
        · kernel_rfl
        · kernel_rfl
        · exact fun _ _ _ h => h
        · refine Or.inl ⟨by kernel_rfl, ?_⟩
          intro wS hSw
          try dsimp only at hSw
          go_simp
          try with_reducible rfl
        simp only [Act.put, List.setIfInBounds_toArray, List.set_cons_zero, List.set_cons_succ]
        refine wpAnyH_take (i := 2) (oi := ?_) (v := ?_) ?_ ?_ ?_ ?_ ?_ ?_ (by assumption) ?_
        rotate_left 2
        · simp only [List.getElem?_toArray, List.getElem?_cons_succ, List.getElem?_cons_zero]
          rfl
        · kernel_rfl
        · kernel_rfl
        · kernel_rfl
        · exact fun _ _ _ h => h
        · refine Or.inl ⟨by kernel_rfl, ?_⟩
          intro wS hSw
          try dsimp only at hSw
          go_simp
          try with_reducible rfl
        simp only [Act.put, List.setIfInBounds_toArray, List.set_cons_zero, List.set_cons_succ]
        refine wpAnyH_take (i := 3) (oi := ?_) (v := ?_) ?_ ?_ ?_ ?_ ?_ ?_ (by assumption) ?_
        rotate_left 2
        · simp only [List.getElem?_toArray, List.getElem?_cons_succ, List.getElem?_cons_zero]
          rfl
        · kernel_rfl
        · kernel_rfl
        · kernel_rfl
        · exact fun _ _ _ h => h
        · refine Or.inl ⟨by kernel_rfl, ?_⟩
          intro wS hSw
          try dsimp only at hSw
          go_simp
          try with_reducible rfl
        simp only [Act.put, List.setIfInBounds_toArray, List.set_cons_zero, List.set_cons_succ]
        refine wpAnyH_take (i := 5) (oi := ?_) (v := ?_) ?_ ?_ ?_ ?_ ?_ ?_ (by assumption) ?_
        rotate_left 2
        · simp only [List.getElem?_toArray, List.getElem?_cons_succ, List.getElem?_cons_zero]
          rfl
        · kernel_rfl
        · kernel_rfl
        · kernel_rfl
        · exact fun _ _ _ h => h
        · refine Or.inl ⟨by kernel_rfl, ?_⟩
          intro wS hSw
          try dsimp only at hSw
          go_simp
          try with_reducible rfl
        simp only [Act.put, List.setIfInBounds_toArray, List.set_cons_zero, List.set_cons_succ]
        refine wpAnyH_take (i := 6) (oi := ?_) (v := ?_) ?_ ?_ ?_ ?_ ?_ ?_ (by assumption) ?_
        rotate_left 2
        · simp only [List.getElem?_toArray, List.getElem?_cons_succ, List.getElem?_cons_zero]
          rfl
        · kernel_rfl
        · kernel_rfl
        · kernel_rfl
        · exact fun _ _ _ h => h
        · refine Or.inl ⟨by kernel_rfl, ?_⟩
          intro wS hSw
          try dsimp only at hSw
          go_simp
          try with_reducible rfl
        simp only [Act.put, List.setIfInBounds_toArray, List.set_cons_zero, List.set_cons_succ]
        refine wpAnyH_take (i := 7) (oi := ?_) (v := ?_) ?_ ?_ ?_ ?_ ?_ ?_ (by assumption) ?_
        rotate_left 2
        · simp only [List.getElem?_toArray, List.getElem?_cons_succ, List.getElem?_cons_zero]
          rfl
        · kernel_rfl
        · kernel_rfl
        · kernel_rfl
        · exact fun _ _ _ h => h
        · refine Or.inl ⟨by kernel_rfl, ?_⟩
          intro wS hSw
          try dsimp only at hSw
          go_simp
          try with_reducible rfl
        simp only [Act.put, List.setIfInBounds_toArray, List.set_cons_zero, List.set_cons_succ]
        refine wpAnyH_take (i := 8) (oi := ?_) (v := ?_) ?_ ?_ ?_ ?_ ?_ ?_ (by assumption) ?_
        rotate_left 2
        · simp only [List.getElem?_toArray, List.getElem?_cons_succ, List.getElem?_cons_zero]
          rfl
        · kernel_rfl
        · kernel_rfl
        · kernel_rfl
        · exact fun _ _ _ h => h
        · refine Or.inl ⟨by kernel_rfl, ?_⟩
          intro wS hSw
          try dsimp only at hSw
          have hFact := run_arrayAt (P := Try.prog) wS 48 5 4 (some ⟨b, off + E, none⟩) 4 (cap - E) Try.underlying48 (Nat.le_refl _)
          go_simp
          try with_reducible rfl
        simp only [Act.put, List.setIfInBounds_toArray, List.set_cons_zero, List.set_cons_succ]
        refine wpAnyH_take (i := 9) (oi := ?_) (v := ?_) ?_ ?_ ?_ ?_ ?_ ?_ (by assumption) ?_
        rotate_left 2
        · simp only [List.getElem?_toArray, List.getElem?_cons_succ, List.getElem?_cons_zero]
          rfl
        · kernel_rfl
        · kernel_rfl
        · kernel_rfl
        · exact fun _ _ _ h => h
        · refine Or.inl ⟨by kernel_rfl, ?_⟩
          intro wS hSw
          try dsimp only at hSw
          go_simp
          try with_reducible rfl
        simp only [Act.put, List.setIfInBounds_toArray, List.set_cons_zero, List.set_cons_succ]
        refine wpAnyH_ready (rs := [4]) (by kernel_rfl) (by simp) ?_
        refine AllReadyH.cons rfl (fun K hK => ?_) ?_
        rotate_left
        · exact AllReadyH.nil
        go_simp
        refine (cD _ (Below.refl _ _)).mono ?_
        rintro e w4 ⟨rfl, hb4⟩
        go_wp2_with fail
        refine hK.out _ _ ?_ (fun hHeld => ?_)
        · exact keepS4 hHeld hb4
        clear hK K
        try simp only [Act.put, List.setIfInBounds_toArray, List.set_cons_zero, List.set_cons_succ]
        refine wpAnyH_take (i := 10) (oi := ?_) (v := ?_) ?_ ?_ ?_ ?_ ?_ ?_ (by assumption) ?_
        rotate_left 2
        · simp only [List.getElem?_toArray, List.getElem?_cons_succ, List.getElem?_cons_zero]
          rfl
        · kernel_rfl
        · kernel_rfl
        · kernel_rfl
        · exact fun _ _ _ h => h
        · refine Or.inl ⟨by kernel_rfl, ?_⟩
          intro wS hSw
          try dsimp only at hSw
          have hFact := eqOther4 hN wS
          go_simp
          try with_reducible rfl
        simp only [Act.put, List.setIfInBounds_toArray, List.set_cons_zero, List.set_cons_succ]
        refine wpAnyH_take (i := 11) (oi := ?_) (v := ?_) ?_ ?_ ?_ ?_ ?_ ?_ (by assumption) ?_
        rotate_left 2
        · simp only [List.getElem?_toArray, List.getElem?_cons_succ, List.getElem?_cons_zero]
          rfl
        · kernel_rfl
        · kernel_rfl
        · kernel_rfl
        · exact fun _ _ _ h => h
        · refine Or.inl ⟨by kernel_rfl, ?_⟩
          intro wS hSw
          try dsimp only at hSw
          go_simp
          try with_reducible rfl
        simp only [Act.put, List.setIfInBounds_toArray, List.set_cons_zero, List.set_cons_succ]
        refine wpAnyH_done (by kernel_rfl) ?_ _
        have hR4 := hR.below (w := (w2.alloc (.cells #[.int .i64 T, .int .i64 Q, .int .i64 N, .bool D, .slice ad data.length c] 27)).drew) hb4
        obtain ⟨⟨r0, r1, r2, r3, r4⟩, f0, f1, f2, f3, f4⟩ := (show _ from hR4)
        have hB4 := behind hB.drew hb4
        go_wp2
        obtain ⟨z0, z1, z2, z3, z4⟩ := (hR4.set (.int .i64 0) (.int .i64 0) (.int .i64 0) (.bool false) (.slice none 0 0)).1
        exact bodyPost_ret (v := .tuple #[.agg #[.int .i64 0, .int .i64 0, .int .i64 0, .bool false, .slice none 0 0], .bool false]) (by simp [results, Try.results10, go_sem, z0, z1, z2, z3, z4]) rfl ⟨rfl, set5 hB4 (Nat.le_refl _) _ _ _ _ _⟩
end Go.Proofs.Ytpejeoekpejblad.Wk
