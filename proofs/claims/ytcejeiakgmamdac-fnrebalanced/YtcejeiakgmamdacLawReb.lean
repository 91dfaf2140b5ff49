/- For every slice of bytes the law FnRebalanced returns true: a drawn ring that is rebalanced to drawn devices has no part with more than one device moved, no device twice in a part, as many moved as are told, and is right where it was. Conditions: none beyond the row's own; above 2^20 bytes the law itself answers true. -/
import Derived.Test.YtcejeiakgmamdacRows
import Derived.Test.YtcejeiakgmamdacBy
import Derived.Test.YtcejeiakgmamdacRbAll
import Derived.Test.YtcejeiakgmamdacRqM
import Derived.Test.YtcejeiakgmamdacMvI
import Derived.Test.YtcejeiakgmamdacRkI
import Derived.Test.YtcejeiakgmamdacDqAll
import Derived.Test.YtcejeiakgmamdacApZ
import Derived.WalkKit
import Derived.ProofKit
import Derived.OpenShut
import Derived.ShutString
import Derived.ChangeOld
import Derived.Below
namespace Go.Proofs.Ytcejeiakgmamdac.fnRebalanced
open Go.ChangeShapes Go.WideShapes Go.ChangeAt Go.RowKit
open Go.ChangeMaps (open_string shut_string)
set_option linter.unusedVariables false

theorem own : ownKnob Try.prog.godebug = none := by kernel_rfl
theorem laidOut : laidOutB Try.prog = true := by kernel_rfl

open Wk

theorem rduN {lo : Nat} {w : World} {a : Option Addr} {ps : List (List Int)} (h : RdU lo w a ps) : RdN w a ps := fun i hi =>
  let ⟨b, off, ai, ci, h1, _, h3, h4, _, h6, h7⟩ := h i hi; ⟨b, off, ai, ci, h1, h3, h4, h6, h7⟩
theorem rdpOne {w : World} {b off : Nat} {ps : List (List Int)} (h : RdP w (some ⟨b, off, none⟩) ps) {k : Nat} (hk : k < ps.length) : RdP w (some ⟨b, off + k, none⟩) [ps[k]] := by
  intro i hi
  obtain rfl : i = 0 := by simp at hi; omega
  obtain ⟨b', off', ai, ci, e, h1, h2, h3⟩ := h k hk
  cases e
  exact ⟨b, off + k, ai, ci, rfl, h1, h2, h3⟩
theorem keepFrAB {w : World} {H A B a b : Nat} {x y u v : Value} (h0 : w.cell? ⟨A, a, none⟩ = some x) (h1 : w.cell? ⟨B, b, none⟩ = some y) (hA : ¬ H = A) (hB : ¬ H = B) :
    ((w.setCell ⟨H, 0, none⟩ u).setCell ⟨H, 1, none⟩ v).cell? ⟨A, a, none⟩ = some x ∧ ((w.setCell ⟨H, 0, none⟩ u).setCell ⟨H, 1, none⟩ v).cell? ⟨B, b, none⟩ = some y := by
  have f : ∀ (w : World) (Z o o' : Nat) (u : Value), ¬ H = Z → (w.setCell ⟨H, o, none⟩ u).cell? ⟨Z, o', none⟩ = w.cell? ⟨Z, o', none⟩ := fun w Z o o' u hne => World.cell?_setCell_other _ _ _ _ (fun e => hne (congrArg Addr.block e))
  exact ⟨by rw [f _ _ _ _ _ hA, f _ _ _ _ _ hA]; exact h0, by rw [f _ _ _ _ _ hB, f _ _ _ _ _ hB]; exact h1⟩
theorem keep7 {w w' : World} {a1 a2 a3 a4 a5 a6 a7 : Addr} {v1 v2 v3 v4 v5 v6 v7 : Value} (h : w.cell? a1 = some v1 ∧ w.cell? a2 = some v2 ∧ w.cell? a3 = some v3 ∧ w.cell? a4 = some v4 ∧ w.cell? a5 = some v5 ∧ w.cell? a6 = some v6 ∧ w.cell? a7 = some v7) (hb : Below w.heap.size w w') :
    w'.cell? a1 = some v1 ∧ w'.cell? a2 = some v2 ∧ w'.cell? a3 = some v3 ∧ w'.cell? a4 = some v4 ∧ w'.cell? a5 = some v5 ∧ w'.cell? a6 = some v6 ∧ w'.cell? a7 = some v7 := by
  have f : ∀ {a : Addr} {v : Value}, w.cell? a = some v → w'.cell? a = some v := fun h => by rw [hb.cell (World.block_lt_of_cell? w _ h)]; exact h
  exact ⟨f h.1, f h.2.1, f h.2.2.1, f h.2.2.2.1, f h.2.2.2.2.1, f h.2.2.2.2.2.1, f h.2.2.2.2.2.2⟩

set_option maxHeartbeats 8000000 in
set_option maxRecDepth 100000 in
theorem walk (a0 : Option Addr) (len0 cap0 : Nat) (z0 : List Int) (w : World) (w0 : IsRow .u8 w a0 len0 cap0 z0) :
    Calls Try.prog 6 #[.slice a0 len0 cap0] w fun e w' => e = .returned (.bool true) ∧ Below w.heap.size w w' := by
  obtain ⟨l, rfl, hlc, hcm, hr⟩ := w0.rd
  clear w0
  by_cases hb : l.length ≤ 1048576
  · go_enter Try.func6, Try.ntmps6
    go_wp2_with (go_at_call 9; go_in)
    go_wp2_with fail
    refine (drawReb a0 cap0 l _ hb hr).mono ?_
    rintro e w1 ⟨Y, gY, cp, rp, Q, gI, ca, rfl, hY7, ⟨hR0, hR6⟩, ⟨hQ16, hQca⟩, hQ4, hY1, hU1, hB1⟩
    have htQ : tot Q ≤ 1048576 := by have := tot4 Q hQ4; omega
    obtain ⟨S, n, hreb, hSl, hSt, hSp, cS, cI⟩ := bothReb rp Q Y (by omega) htQ (by omega)
    have HF : Hid (0 ≤ n → (∀ i (hi : i < Q.length) (hr : i < S.length), Rg.moved [Q[i]] [S[i]] ≤ 1 ∧ (S[i].length : Int) = rp ∧ S[i].Nodup) ∧ (Rg.moved Q S : Int) = n ∧ (Rg.ringB rp Q Y = true → Rg.ringB rp S Y = true) ∧ 1 ≤ rp) := fun h => Rg.reb_facts hreb h
    clear hreb hr hlc hcm
    obtain ⟨A, hA⟩ : ∃ A, w1.heap.size = A := ⟨_, rfl⟩
    have sA := slot2New w1 (.int .i64 rp) (.slice (some ⟨gI, 0, none⟩) Q.length ca) 29
    have bA := bel1 w1 (.cells #[.int .i64 rp, .slice (some ⟨gI, 0, none⟩) Q.length ca] 29)
    have hY2 := hY1.below bA
    have hU2 := hU1.below bA
    have hB2 := behind hB1 bA
    clear hY1 hU1 hB1
    go_wp2_with fail
    rw [hA] at sA
    generalize w1.alloc (.cells #[.int .i64 rp, .slice (some ⟨gI, 0, none⟩) Q.length ca] 29) = wA at sA bA hY2 hU2 hB2 ⊢
    clear bA
    refine (cI _ _ _ _ wA (rduN hU2) (fun e => by cases e) hY2).mono ?_
    rintro e w3 ⟨aI, caI, rfl, hOI, hb3⟩
    have hSc : S.length ≤ caI := by
      obtain ⟨vs, h1, -⟩ := id hOI
      rw [hSl] at h1
      have h2 := own_cap h1
      omega
    have hRI := OwnP.rdS hOI
    obtain ⟨B, hBe⟩ : ∃ B, w3.heap.size = B := ⟨_, rfl⟩
    have sB := slot2New w3 (.int .i64 rp) (.slice aI Q.length caI) 29
    have bB := bel1 w3 (.cells #[.int .i64 rp, .slice aI Q.length caI] 29)
    have b3B := behind hb3 bB
    have sA3 := sA.below b3B
    have hY3 := hY2.below b3B
    have hU3 := hU2.below b3B
    have hB3 := behind hB2 b3B
    have hR3 := hRI.below bB
    obtain ⟨⟨t0, t1⟩, -⟩ := id sA3
    clear sA hY2 hU2 hB2 hb3 hOI hRI
    go_wp2_with fail
    rw [hBe] at sB
    generalize w3.alloc (.cells #[.int .i64 rp, .slice aI Q.length caI] 29) = wB at sB bB b3B sA3 hY3 hU3 hB3 hR3 t0 t1 ⊢
    clear bB b3B
    refine (cS _ _ _ _ wB (rduN hU3) hY3).mono ?_
    rintro e w4 ⟨aS, caS, rfl, -, hb4⟩
    have b4 := bel1 w4 (.cells #[.int .i64 rp, .slice aS Q.length caS] 29)
    have b4C := behind hb4 b4
    have sA4 := sA3.below b4C
    have sB4 := sB.below b4C
    have hY4 := hY3.below b4C
    have hU4 := hU3.below b4C
    have hR4 := hR3.below b4C
    have hB4 := behind hB3 b4C
    clear sA3 sB hY3 hU3 hR3 hB3 hb4 t0 t1 cS cI
    obtain ⟨⟨t0, t1⟩, -⟩ := id sA4
    obtain ⟨⟨u0, u1⟩, -⟩ := id sB4
    by_cases hn : n < 0
    · go_wp2
      go_ret
      exact ⟨rfl, hB4⟩
    · obtain ⟨hix, hmv, hrg, hr1⟩ := HF.out (by omega)
      have HIX : Hid (∀ i (hi : i < Q.length) (hr : i < S.length), Rg.moved [Q[i]] [S[i]] ≤ 1 ∧ (S[i].length : Int) = rp ∧ S[i].Nodup) := hix
      have HRG : Hid (Rg.ringB rp Q Y = true → Rg.ringB rp S Y = true) := hrg
      have HMV : Hid ((Rg.moved Q S : Int) = n) := hmv
      clear hix hrg hmv HF
      go_wp2_with fail
      generalize w4.alloc (.cells #[.int .i64 rp, .slice aS Q.length caS] 29) = w5 at sA4 sB4 b4 b4C hY4 hU4 hR4 hB4 t0 t1 u0 u1 ⊢
      clear b4 b4C t0 t1 u0 u1
      go_loopw [9] (fun i wr => ∃ k : Nat, k ≤ Q.length ∧ i = .int .i64 k ∧ Below w5.heap.size w5 wr) (fun i _ => Q.length - (intOf i).toNat)
      case atStart => exact ⟨0, Nat.zero_le _, rfl, Below.refl _ _⟩
      case round =>
        obtain ⟨k, hk, rfl, hbw⟩ := hrel
        have sA5 := sA4.below hbw
        have sB5 := sB4.below hbw
        have hB5 := behind hB4 hbw
        obtain ⟨⟨t0, t1⟩, -⟩ := id sA5
        obtain ⟨⟨u0, u1⟩, -⟩ := id sB5
        by_cases hlt : k < Q.length
        · have hltI : (k : Int) < (Q.length : Int) := by omega
          have hltS : k < S.length := by omega
          obtain ⟨hm1, hlen, hnd⟩ := HIX.out k hlt hltS
          have hU5 := hU4.below hbw
          have hR5 := hR4.below hbw
          obtain ⟨bS, oS, ai, ci, rfl, q0, q1, q2⟩ := hR5 k hltS
          have hP1 := rdpOne hU5.rd hlt
          have hP2 := rdpOne hR5 hltS
          have htq : tot [Q[k]] ≤ 1048576 := by have := hQ4 _ (List.getElem_mem hlt); simp [tot]; omega
          have hts : tot [S[k]] ≤ 1048576 := by have := hSp _ (List.getElem_mem hltS); simp [tot]; omega
          have hqs := hSp _ (List.getElem_mem hltS)
          rw [Nat.zero_add] at hP1
          generalize Q[k] = qk at hm1 hP1 htq
          generalize S[k] = q at hm1 hlen hnd q0 q1 q2 hP2 hts hqs
          subst hlen
          have cM0 := fun w h1 h2 => implMoved (q.length : Int) (q.length : Int) (some ⟨gI, k, none⟩) (some ⟨bS, oS + k, none⟩) (ca - k) (caI - k) [qk] [q] w (by simp) (by simp) htq hts h1 h2
          simp only [List.length_singleton] at cM0
          generalize Rg.moved [qk] [q] = mv at hm1 cM0
          obtain ⟨MV, hMV⟩ : ∃ MV : Int, (mv : Int) = MV := ⟨_, rfl⟩
          have hmv1 : ¬ (1 < MV) := by omega
          have hmv2 : decide (1 < MV) = false := decide_eq_false hmv1
          rw [hMV] at cM0
          clear hMV hm1
          have hne1 : ¬ ca = k := by omega
          have hne2 : ¬ caI = k := by omega
          have hk1 : (k : Int) + 1 ≤ (ca : Int) := by omega
          have hk2 : (k : Int) + 1 ≤ (caI : Int) := by omega
          have hw1 : IntKind.i64.wrap ((k : Int) + 1) = (k : Int) + 1 := wrap9 _ (by omega) (by omega)
          have hk0 : (0 : Int) ≤ (k : Int) := by omega
          have hk3 : (k : Int) ≤ (k : Int) + 1 := by omega
          have hAl := sA5.lt
          have hBl := sB5.lt
          have hAH : ¬ wr.heap.size = A := by omega
          have bP1 := bel1 wr (.cells #[.int .i64 0, .slice none 0 0] 29)
          have t0E := cellOn t0 bP1
          have t1E := cellOn t1 bP1
          go_wp2_with fail
          go_region_held3 (fun wy => wy.cell? ⟨A, 0, none⟩ = some (.int .i64 (q.length : Int)) ∧ wy.cell? ⟨A, 1, none⟩ = some (.slice (some ⟨gI, 0, none⟩) Q.length ca))
            (first | with_reducible exact ⟨t0, t1⟩ | with_reducible exact ⟨t0E, t1E⟩ | with_reducible exact keepFr2 t0E t1E hAH | go_keep)
            (fail)
          have b6 : Below wr.heap.size wr (wr.alloc (.cells #[.int .i64 (q.length : Int), .slice (some ⟨gI, k, none⟩) 1 (ca - k)] 29)).drew := (bel1 wr _).drew
          have sD : Slot2 (wr.alloc (.cells #[.int .i64 (q.length : Int), .slice (some ⟨gI, k, none⟩) 1 (ca - k)] 29)).drew wr.heap.size (.int .i64 (q.length : Int)) (.slice (some ⟨gI, k, none⟩) 1 (ca - k)) := slot2New wr _ _ _
          have sA6 := sA5.below b6
          have sB6 := sB5.below b6
          have q06 := cellOn q0 b6
          have q16 := q1.below b6
          have hP16 := hP1.below b6
          have hP26 := hP2.below b6
          obtain ⟨⟨t0, t1⟩, -⟩ := id sA6
          obtain ⟨⟨u0, u1⟩, -⟩ := id sB6
          have hbw6 := behind hbw b6
          clear q0 q1 hP1 hP2 bP1 t0E t1E sA5 sB5
          obtain ⟨D, hD⟩ : ∃ D, wr.heap.size = D := ⟨_, rfl⟩
          rw [hD] at sD
          generalize (wr.alloc (.cells #[.int .i64 (q.length : Int), .slice (some ⟨gI, k, none⟩) 1 (ca - k)] 29)).drew = w6 at b6 sD sA6 sB6 q06 q16 hP16 hP26 t0 t1 u0 u1 hbw6 ⊢
          clear b6
          have hAl6 := sA6.lt
          have hBl6 := sB6.lt
          have hAH6 : ¬ w6.heap.size = A := by omega
          have hBH6 : ¬ w6.heap.size = B := by omega
          have bP6 := bel1 w6 (.cells #[.int .i64 0, .slice none 0 0] 29)
          have t0F := cellOn t0 bP6
          have u1F := cellOn u1 bP6
          go_wp2_with fail
          go_region_held3 (fun wy => wy.cell? ⟨A, 0, none⟩ = some (.int .i64 (q.length : Int)) ∧ wy.cell? ⟨B, 1, none⟩ = some (.slice (some ⟨bS, oS, none⟩) Q.length caI))
            (first | with_reducible exact ⟨t0, u1⟩ | with_reducible exact ⟨t0F, u1F⟩ | with_reducible exact keepFrAB t0F u1F hAH6 hBH6 | go_keep)
            (fail)
          have b7 : Below w6.heap.size w6 (w6.alloc (.cells #[.int .i64 (q.length : Int), .slice (some ⟨bS, oS + k, none⟩) 1 (caI - k)] 29)).drew := (bel1 w6 _).drew
          have sE : Slot2 (w6.alloc (.cells #[.int .i64 (q.length : Int), .slice (some ⟨bS, oS + k, none⟩) 1 (caI - k)] 29)).drew w6.heap.size (.int .i64 (q.length : Int)) (.slice (some ⟨bS, oS + k, none⟩) 1 (caI - k)) := slot2New w6 _ _ _
          have sA7 := sA6.below b7
          have sB7 := sB6.below b7
          have sD7 := sD.below b7
          have q07 := cellOn q06 b7
          have q17 := q16.below b7
          have hP17 := hP16.below b7
          have hP27 := hP26.below b7
          have hbw7 := behind hbw6 b7
          obtain ⟨⟨t0, t1⟩, -⟩ := id sA7
          obtain ⟨⟨u0, u1⟩, -⟩ := id sB7
          obtain ⟨⟨d0, d1⟩, -⟩ := id sD7
          obtain ⟨⟨e0, e1⟩, -⟩ := id sE
          clear q06 q16 hP16 hP26 bP6 t0F u1F sA6 sB6 sD hbw6 hbw hB5 hU5 hR5
          obtain ⟨E, hE⟩ : ∃ E, w6.heap.size = E := ⟨_, rfl⟩
          rw [hE] at sE e0 e1
          generalize (w6.alloc (.cells #[.int .i64 (q.length : Int), .slice (some ⟨bS, oS + k, none⟩) 1 (caI - k)] 29)).drew = w7 at b7 sE sA7 sB7 sD7 q07 q17 hP17 hP27 t0 t1 u0 u1 d0 d1 e0 e1 hbw7 ⊢
          clear b7
          have cM := cM0 w7.drew hP17 hP27
          clear cM0
          -- @region13
          go_upto_region 13 with fail
          refine wp_region_held_drew (S := fun wy => wy.cell? ⟨D, 0, none⟩ = some (.int .i64 (q.length : Int)) ∧ wy.cell? ⟨D, 1, none⟩ = some (.slice (some ⟨gI, k, none⟩) 1 (ca - k)) ∧ wy.cell? ⟨E, 0, none⟩ = some (.int .i64 (q.length : Int)) ∧ wy.cell? ⟨E, 1, none⟩ = some (.slice (some ⟨bS, oS + k, none⟩) 1 (caI - k)) ∧ wy.cell? ⟨B, 1, none⟩ = some (.slice (some ⟨bS, oS, none⟩) Q.length caI) ∧ wy.cell? ⟨bS, oS + k, none⟩ = some (.slice ai q.length ci) ∧ wy.cell? ⟨A, 0, none⟩ = some (.int .i64 (q.length : Int))) (by kernel_rfl) ⟨d0, d1, e0, e1, u1, q07, t0⟩ (fun hHeld => ?_)
          refine wpAnyH_take (i := 0) (oi := ?_) (v := ?_) ?_ ?_ ?_ ?_ ?_ ?_ (by assumption) ?_
          rotate_left 2
          · simp only [List.getElem?_toArray, List.getElem?_cons_zero]
            rfl
          · kernel_rfl
          · kernel_rfl
          · kernel_rfl
          · exact fun _ _ _ h => h
          · refine Or.inl ⟨by kernel_rfl, ?_⟩
            intro wS hSw
            try dsimp only at hSw
            go_simp
            try with_reducible rfl
          simp only [Act.put, List.setIfInBounds_toArray, List.set_cons_zero, List.set_cons_succ]
          refine wpAnyH_take (i := 1) (oi := ?_) (v := ?_) ?_ ?_ ?_ ?_ ?_ ?_ (by assumption) ?_
          rotate_left 2
          · simp only [List.getElem?_toArray, List.getElem?_cons_succ, List.getElem?_cons_zero]
            rfl
          · kernel_rfl
          · kernel_rfl
          · kernel_rfl
          · exact fun _ _ _ h => h
          · refine Or.inl ⟨by kernel_rfl, ?_⟩
            intro wS hSw
            try dsimp only at hSw
            go_simp
            try with_reducible rfl
          simp only [Act.put, List.setIfInBounds_toArray, List.set_cons_zero, List.set_cons_succ]
          refine wpAnyH_ready (rs := [2]) (by kernel_rfl) (by simp) ?_
          refine AllReadyH.cons rfl (fun K hK => ?_) ?_
          rotate_left
          · exact AllReadyH.nil
          go_simp
          refine cM.mono ?_
          rintro e w8 ⟨rfl, hb8⟩
          go_wp2_with fail
          refine hK.out _ _ ?_ (fun hHeld => ?_)
          · exact keep7 hHeld hb8
          clear hK K
          try simp only [Act.put, List.setIfInBounds_toArray, List.set_cons_zero, List.set_cons_succ]
          refine wpAnyH_take (i := 3) (oi := ?_) (v := ?_) ?_ ?_ ?_ ?_ ?_ ?_ (by assumption) ?_
          rotate_left 2
          · simp only [List.getElem?_toArray, List.getElem?_cons_succ, List.getElem?_cons_zero]
            rfl
          · kernel_rfl
          · kernel_rfl
          · kernel_rfl
          · exact fun _ _ _ h => h
          · refine Or.inl ⟨by kernel_rfl, ?_⟩
            intro wS hSw
            try dsimp only at hSw
            go_simp
            try with_reducible rfl
          simp only [Act.put, List.setIfInBounds_toArray, List.set_cons_zero, List.set_cons_succ]
          refine wpAnyH_take (i := 4) (oi := ?_) (v := ?_) ?_ ?_ ?_ ?_ ?_ ?_ (by assumption) ?_
          rotate_left 2
          · simp only [List.getElem?_toArray, List.getElem?_cons_succ, List.getElem?_cons_zero]
            rfl
          · kernel_rfl
          · kernel_rfl
          · kernel_rfl
          · exact fun _ _ _ h => h
          · refine Or.inl ⟨by kernel_rfl, ?_⟩
            intro wS hSw
            try dsimp only at hSw
            go_simp
            try with_reducible rfl
          simp only [Act.put, List.setIfInBounds_toArray, List.set_cons_zero, List.set_cons_succ]
          refine wpAnyH_take (i := 5) (oi := ?_) (v := ?_) ?_ ?_ ?_ ?_ ?_ ?_ (by assumption) ?_
          rotate_left 2
          · simp only [List.getElem?_toArray, List.getElem?_cons_succ, List.getElem?_cons_zero]
            rfl
          · kernel_rfl
          · kernel_rfl
          · kernel_rfl
          · exact fun _ _ _ h => h
          · refine Or.inl ⟨by kernel_rfl, ?_⟩
            intro wS hSw
            try dsimp only at hSw
            go_simp
            try with_reducible rfl
          simp only [Act.put, List.setIfInBounds_toArray, List.set_cons_zero, List.set_cons_succ]
          refine wpAnyH_take (i := 6) (oi := ?_) (v := ?_) ?_ ?_ ?_ ?_ ?_ ?_ (by assumption) ?_
          rotate_left 2
          · simp only [List.getElem?_toArray, List.getElem?_cons_succ, List.getElem?_cons_zero]
            rfl
          · kernel_rfl
          · kernel_rfl
          · kernel_rfl
          · exact fun _ _ _ h => h
          · refine Or.inl ⟨by kernel_rfl, ?_⟩
            intro wS hSw
            try dsimp only at hSw
            go_simp
            try with_reducible rfl
          simp only [Act.put, List.setIfInBounds_toArray, List.set_cons_zero, List.set_cons_succ]
          refine wpAnyH_take (i := 7) (oi := ?_) (v := ?_) ?_ ?_ ?_ ?_ ?_ ?_ (by assumption) ?_
          rotate_left 2
          · simp only [List.getElem?_toArray, List.getElem?_cons_succ, List.getElem?_cons_zero]
            rfl
          · kernel_rfl
          · kernel_rfl
          · kernel_rfl
          · exact fun _ _ _ h => h
          · refine Or.inl ⟨by kernel_rfl, ?_⟩
            intro wS hSw
            try dsimp only at hSw
            go_simp
            try with_reducible rfl
          simp only [Act.put, List.setIfInBounds_toArray, List.set_cons_zero, List.set_cons_succ]
          refine wpAnyH_take (i := 8) (oi := ?_) (v := ?_) ?_ ?_ ?_ ?_ ?_ ?_ (by assumption) ?_
          rotate_left 2
          · simp only [List.getElem?_toArray, List.getElem?_cons_succ, List.getElem?_cons_zero]
            rfl
          · kernel_rfl
          · kernel_rfl
          · kernel_rfl
          · exact fun _ _ _ h => h
          · refine Or.inl ⟨by kernel_rfl, ?_⟩
            intro wS hSw
            try dsimp only at hSw
            go_simp
            try with_reducible rfl
          simp only [Act.put, List.setIfInBounds_toArray, List.set_cons_zero, List.set_cons_succ]
          refine wpAnyH_take (i := 9) (oi := ?_) (v := ?_) ?_ ?_ ?_ ?_ ?_ ?_ (by assumption) ?_
          rotate_left 2
          · simp only [List.getElem?_toArray, List.getElem?_cons_succ, List.getElem?_cons_zero]
            rfl
          · kernel_rfl
          · kernel_rfl
          · kernel_rfl
          · exact fun _ _ _ h => h
          · refine Or.inl ⟨by kernel_rfl, ?_⟩
            intro wS hSw
            try dsimp only at hSw
            go_simp
            try with_reducible rfl
          simp only [Act.put, List.setIfInBounds_toArray, List.set_cons_zero, List.set_cons_succ]
          refine wpAnyH_take (i := 10) (oi := ?_) (v := ?_) ?_ ?_ ?_ ?_ ?_ ?_ (by assumption) ?_
          rotate_left 2
          · simp only [List.getElem?_toArray, List.getElem?_cons_succ, List.getElem?_cons_zero]
            rfl
          · kernel_rfl
          · kernel_rfl
          · kernel_rfl
          · exact fun _ _ _ h => h
          · refine Or.inl ⟨by kernel_rfl, ?_⟩
            intro wS hSw
            try dsimp only at hSw
            go_simp
            try with_reducible rfl
          simp only [Act.put, List.setIfInBounds_toArray, List.set_cons_zero, List.set_cons_succ]
          refine wpAnyH_take (i := 11) (oi := ?_) (v := ?_) ?_ ?_ ?_ ?_ ?_ ?_ (by assumption) ?_
          rotate_left 2
          · simp only [List.getElem?_toArray, List.getElem?_cons_succ, List.getElem?_cons_zero]
            rfl
          · kernel_rfl
          · kernel_rfl
          · kernel_rfl
          · exact fun _ _ _ h => h
          · refine Or.inl ⟨by kernel_rfl, ?_⟩
            intro wS hSw
            try dsimp only at hSw
            go_simp
            try with_reducible rfl
          simp only [Act.put, List.setIfInBounds_toArray, List.set_cons_zero, List.set_cons_succ]
          refine wpAnyH_take (i := 12) (oi := ?_) (v := ?_) ?_ ?_ ?_ ?_ ?_ ?_ (by assumption) ?_
          rotate_left 2
          · simp only [List.getElem?_toArray, List.getElem?_cons_succ, List.getElem?_cons_zero]
            rfl
          · kernel_rfl
          · kernel_rfl
          · kernel_rfl
          · exact fun _ _ _ h => h
          · refine Or.inl ⟨by kernel_rfl, ?_⟩
            intro wS hSw
            try dsimp only at hSw
            go_simp
            try with_reducible rfl
          simp only [Act.put, List.setIfInBounds_toArray, List.set_cons_zero, List.set_cons_succ]
          refine wpAnyH_take (i := 13) (oi := ?_) (v := ?_) ?_ ?_ ?_ ?_ ?_ ?_ (by assumption) ?_
          rotate_left 2
          · simp only [List.getElem?_toArray, List.getElem?_cons_succ, List.getElem?_cons_zero]
            rfl
          · kernel_rfl
          · kernel_rfl
          · kernel_rfl
          · exact fun _ _ _ h => h
          · refine Or.inl ⟨by kernel_rfl, ?_⟩
            intro wS hSw
            try dsimp only at hSw
            go_simp
            try with_reducible rfl
          simp only [Act.put, List.setIfInBounds_toArray, List.set_cons_zero, List.set_cons_succ]
          refine wpAnyH_take (i := 14) (oi := ?_) (v := ?_) ?_ ?_ ?_ ?_ ?_ ?_ (by assumption) ?_
          rotate_left 2
          · simp only [List.getElem?_toArray, List.getElem?_cons_succ, List.getElem?_cons_zero]
            rfl
          · kernel_rfl
          · kernel_rfl
          · kernel_rfl
          · exact fun _ _ _ h => h
          · refine Or.inl ⟨by kernel_rfl, ?_⟩
            intro wS hSw
            try dsimp only at hSw
            go_simp
            try with_reducible rfl
          simp only [Act.put, List.setIfInBounds_toArray, List.set_cons_zero, List.set_cons_succ]
          refine wpAnyH_take (i := 15) (oi := ?_) (v := ?_) ?_ ?_ ?_ ?_ ?_ ?_ (by assumption) ?_
          rotate_left 2
          · simp only [List.getElem?_toArray, List.getElem?_cons_succ, List.getElem?_cons_zero]
            rfl
          · kernel_rfl
          · kernel_rfl
          · kernel_rfl
          · exact fun _ _ _ h => h
          · refine Or.inl ⟨by kernel_rfl, ?_⟩
            intro wS hSw
            try dsimp only at hSw
            go_simp
            try with_reducible rfl
          simp only [Act.put, List.setIfInBounds_toArray, List.set_cons_zero, List.set_cons_succ]
          refine wpAnyH_done (by kernel_rfl) ?_ _
          -- @end13
          have hb78 : Below w7.heap.size w7 w8 := behind (Below.refl _ w7).drew hb8
          have sA8 := sA7.below hb78
          have sB8 := sB7.below hb78
          have q08 := cellOn q07 hb78
          have q18 := q17.below hb78
          have hbw8 := behind hbw7 hb78
          clear cM sA7 sB7 sD7 sE q07 q17 hP17 hP27 t0 t1 u0 u1 d0 d1 e0 e1 hbw7 hb8 hb78
          go_wp2
          go_loopw [12] (fun j wq => ∃ m : Nat, m ≤ q.length ∧ j = .int .i64 m ∧ Below w8.heap.size w8 wq) (fun j _ => q.length - (intOf j).toNat)
          case atStart => exact ⟨0, Nat.zero_le _, rfl, Below.refl _ _⟩
          case round =>
            obtain ⟨m, hm, rfl, hbq⟩ := hrel
            obtain ⟨⟨t0, t1⟩, -⟩ := sA8.below hbq
            obtain ⟨⟨u0, u1⟩, -⟩ := sB8.below hbq
            have q09 := cellOn q08 hbq
            have q19 := q18.below hbq
            by_cases hml : m < q.length
            · have hmlI : (m : Int) < (q.length : Int) := by omega
              have hm0 : (0 : Int) ≤ (m : Int) := by omega
              have hmc : (m : Int) ≤ (ci : Int) := by omega
              have htl : (q.take m).length = m := by rw [List.length_take]; omega
              obtain ⟨b2, o2, rfl, x0⟩ := q19 m hml
              have hno : q[m] ∉ q.take m := fun hmem => by
                have := Rg.partB_no (reps := (q.length : Int)) hml hmem
                simp [Rg.partB, hnd] at this
              have cX := fun w h => lawHas (some ⟨b2, o2, none⟩) ci (q.take m) q[m] w (by omega) h
              rw [decide_eq_false hno, htl] at cX
              have hrt := q19.take m
              generalize q[m] = z at x0 cX
              clear hno
              go_wp2_with fail
              go_quiet (first | (go_at_call 24; exact Calls.quiet_of_same (cX _ hrt)) | fail)
              go_wp2
              go_roundw
              case rel => exact ⟨m + 1, by omega, by go_num, (hbq.trans ⟨rfl, rfl, rfl, Nat.le_refl _, fun _ _ => rfl⟩)⟩
              case measure => simp [intOf]; omega
            · have hmlI : ¬ (m : Int) < (q.length : Int) := by omega
              go_wp2
              go_roundw
              case rel => exact ⟨k + 1, by omega, by go_num, behind hbw8 hbq⟩
              case measure => simp [intOf]; omega
        · have hltI : ¬ (k : Int) < (Q.length : Int) := by omega
          have hU5 := hU4.below hbw
          have hR5 := hR4.below hbw
          have hY5 := hY4.below hbw
          have cM := implMoved rp rp (some ⟨gI, 0, none⟩) aI ca caI Q S wr (by omega) (by omega) htQ hSt hU5.rd hR5
          have hmv := HMV.out
          have cK := fun w h h2 => specRing rp (some ⟨gI, 0, none⟩) (some ⟨gY, 0, none⟩) ca cp Q Y w (by omega) (fun q hq => by have := hQ4 q hq; omega) (by omega) h h2
          have cL := fun w h h2 => implRing rp aI (some ⟨gY, 0, none⟩) caI cp S Y w (by omega) hSt (by omega) h h2
          rw [hSl] at cM cL
          rw [hmv] at cM
          clear hmv HMV HIX
          go_wp2_with fail
          refine cM.mono ?_
          rintro e w8 ⟨rfl, hb8⟩
          have sA8 := sA5.below hb8
          have sB8 := sB5.below hb8
          obtain ⟨⟨t0', t1'⟩, -⟩ := id sA8
          have cK8 := cK w8 (hU5.below hb8).rd (hY5.below hb8)
          cases hK : Rg.ringB rp Q Y with
          | false =>
            rw [hK] at cK8
            go_wp2_with fail
            refine cK8.mono ?_
            rintro e w9 ⟨rfl, hb9⟩
            go_wp2
            go_ret
            exact ⟨rfl, behind (behind hB5 hb8) hb9⟩
          | true =>
            rw [hK] at cK8
            go_wp2_with fail
            refine cK8.mono ?_
            rintro e w9 ⟨rfl, hb9⟩
            have cL9 := cL w9 ((hR5.below hb8).below hb9) ((hY5.below hb8).below hb9)
            rw [HRG.out hK] at cL9
            obtain ⟨⟨u0', u1'⟩, -⟩ := sB8.below hb9
            go_wp2_with fail
            refine cL9.mono ?_
            rintro e w10 ⟨rfl, hb10⟩
            go_wp2
            go_ret
            exact ⟨rfl, behind (behind (behind hB5 hb8) hb9) hb10⟩
  · go_enter Try.func6, Try.ntmps6
    go_wp2_with (go_at_call 9; go_in)
    go_wp2
    go_ret
    exact ⟨rfl, Below.refl _ _⟩

set_option maxRecDepth 100000 in
theorem lifted (os : Os) (started : os.Started) (H : Type) (enc : TypeId × Value → H) :
    ReturnsInHanded {} Try.checked os 6 .any (Rows.fnRebalancedSpec.pre6 enc Try.prog Try.f6 Rows.fnRebalancedRow.domain false) (Rows.fnRebalancedSpec.post enc Try.prog Try.f6 false true false false) := by
  refine returnsInHanded_of_change (C := Try.checked) own started (by kernel_rfl) Try.func6
    (ChangeSpec.witness6 (enc := enc) (C := Try.checked) false ⟨#[], #[.slice none 0 0], []⟩ 8 (by kernel_rfl) (by kernel_rfl) (by kernel_rfl) (by kernel_rfl)) ?_
  intro W base args ds gs before hval0 hW hcnd _
  have hval : ∀ (j : Nat) t v, Try.f6.params[j]? = some t → args[j]? = some v → Value.okWide Try.prog W .any base t v := hval0
  have hW' := hW
  obtain ⟨p, q, hA0, hV, rfl, hfz, hnd⟩ := hW
  have hA : DataW.TrodAll enc Try.prog W 0 (fun _ => true) true Try.f6.params.toList args.toList ds p := hA0
  rw [Try.params6] at hA hval
  obtain ⟨v0, vs0, d0, ds0, p0, q0, hargs, rfl, rfl, h0, r0⟩ := trodAll_cons hA
  obtain ⟨rfl, rfl, rfl⟩ := trodAll_nil r0
  obtain rfl : args = #[v0] := by cases args; simp_all
  obtain ⟨rfl, rfl⟩ := trodVars_none hV
  obtain ⟨a0, len0, cap0, rfl⟩ := okWide_slice Try.underlying22 (hval 0 22 v0 rfl rfl)
  have k0 := h0
  have lt0 : ∀ x ∈ p0, x.block < W.heap.size := by obtain ⟨m, hm⟩ := k0; exact DataW.trod_lt m _ _ _ hm
  obtain ⟨z0, w0⟩ : ∃ zs, IsRow .u8 W a0 len0 cap0 zs := by
    obtain ⟨fuel, hf⟩ := h0
    rcases open_ints Try.underlying22 Try.underlying5 (by kernel_rfl) hf with ⟨hcs, _⟩ | ⟨x, l, c, zs, hcs, _, hl, hm, hz, _, hcell, hwz⟩
    · simp [Value.cells] at hcs
      obtain ⟨rfl, rfl, rfl⟩ := hcs
      exact ⟨[], .inl ⟨rfl, rfl, rfl, rfl⟩⟩
    · simp [Value.cells] at hcs
      obtain ⟨rfl, rfl, rfl⟩ := hcs
      exact ⟨zs, .inr ⟨_, rfl, hl, hm, by simpa using hz, hcell, hwz⟩⟩
  clear hA0 hval0
  refine (walk a0 len0 cap0 z0 W w0).mono fun e W' ⟨he, bel⟩ => ?_
  subst he
  exact ⟨_, rfl, _, _, _, [], _, [], hW', trodAll_mk1 (shut_bool Try.underlying4 _), (trodAll_cons_mk (Below.trod laidOut (by kernel_rfl) (of_decide_eq_true (by kernel_rfl)) k0 bel lt0) trodAll_mk0), rfl, bel.frame _, fun h => by cases h⟩

theorem over : Rows.fnRebalancedRow.holds Try.pinned (OpenSpec.ofChange Rows.fnRebalancedSpec) :=
  OpenClaim.holds_of_wide 6 Try.f6 rfl rfl rfl rfl rfl rfl rfl ⟨rfl, rfl, rfl, rfl, rfl⟩ rfl rfl rfl rfl rfl (by kernel_rfl) Try.func6 (by kernel_rfl)
    (of_decide_eq_true (by kernel_rfl)) (by unfold Func.isWrapper; first | (rw [if_pos (by decide +kernel)]; kernel_rfl) | (rw [if_neg (by decide +kernel)]; exact ⟨rfl, rfl⟩))
    (fun os started H enc _ => lifted os started H enc)

end Go.Proofs.Ytcejeiakgmamdac.fnRebalanced
namespace Go.Proofs.Ytcejeiakgmamdac
theorem fnRebalanced_holds : Rows.FnRebalancedSaid := fnRebalanced.over
#print axioms fnRebalanced_holds
end Go.Proofs.Ytcejeiakgmamdac
