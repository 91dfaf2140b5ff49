/- What Handoffs of the specification comes to. -/
import Derived.Test.YtcejeiakgmamdacPmS
import Derived.Test.YtcejeiakgmamdacSpS
namespace Go.Proofs.Ytcejeiakgmamdac.Wk
set_option linter.unusedVariables false
open Go.ChangeShapes Go.WideShapes Go.ChangeAt Go.RowKit

set_option maxHeartbeats 4000000 in
set_option maxRecDepth 100000 in
theorem specHand (reps : Int) (a c : Option Addr) (ca cc : Nat) (ps : List (List Int)) (s : ByteArray) (l : List Sm.St) (w : World) (hs : s.size ≤ 1048576) (hp : ps.length ≤ 1048576) (hq : (pick ps s).length ≤ 1048576) (hl : l.length ≤ 1048576) (hr : RdN w a ps) (hrl : RdS w c l) :
    Calls Try.prog 34 #[.agg #[.int .i64 reps, .slice a ps.length ca], .slice c l.length cc, .string s] w fun e w' => ∃ (a' : Option Addr) (cp : Nat), e = .returned (.slice a' (hand (pick ps s) l).length cp) ∧
      w'.ownsRow w.heap.size 3 1 (.slice a' (hand (pick ps s) l).length cp) (hand (pick ps s) l).length (Zv (hand (pick ps s) l)) ∧ Below w.heap.size w w' := by
  obtain ⟨i0, hif, hz0, hz1, hz2⟩ := info_parts infoZ
  have b0 := bel1 w (.cells #[.int .i64 reps, .slice a ps.length ca] 29)
  have s0 := slot2New w (.int .i64 reps) (.slice a ps.length ca) 29
  obtain ⟨⟨c0, c1⟩, -⟩ := s0
  have cP := fun w h => specPrims reps a ca ps s w hs hp hq h
  have HE := accH_end (pick ps s) l
  generalize pick ps s = p at cP hq HE ⊢
  rw [← HE]
  clear HE
  have hZl := Rg.zns_len l p
  have cZ := fun (b : Option Addr) (cb : Nat) w h h2 => specZns b c cb cc p l w hq hl h h2
  generalize Rg.zns l p = Z at cZ hZl ⊢
  have cH1 := fun (b : Option Addr) (cb : Nat) (z : Int) (w : World) h => specHas b cb p z w hq h
  have cH2 := fun (b : Option Addr) (cb : Nat) (z : Int) (w : World) h => specHas b cb Z z w (by omega) h
  have HAl : Hid (∀ r, (accH p Z l r).length ≤ 2 * l.length) := accH_len p Z l
  have HA0 : Hid (accH p Z l 0 = []) := rfl
  have HAs : Hid (∀ r, r < 2 → accH p Z l (r + 1) = accH p Z l r ++ selH (decide (r = 1)) p Z l) := fun r hr => accH_succ p Z l hr
  go_enter Try.func34, Try.ntmps34
  go_wp2_with fail
  refine (cP _ (hr.below b0)).mono ?_
  rintro e w2 ⟨a2, c2, rfl, ho2, hb2⟩
  have hB2 := behind b0 hb2
  go_wp2_with fail
  refine (cZ a2 c2 w2 (Zv_rd ho2) (hrl.below hB2)).mono ?_
  rintro e w3 ⟨a3, c3, rfl, ho3, hb3⟩
  have hB3 := behind hB2 hb3
  have r2 := (Zv_rd ho2).below hb3
  have r3 := Zv_rd ho3
  have rl := hrl.below hB3
  clear ho2 ho3 hb2 hb3 hB2 cP cZ hr hrl c0 c1 b0
  have e4 := emptyZ w3
  have b4 := bel1 w3 (.cells #[] 3)
  go_wp2_with fail
  go_loopw [9, 10] (fun v q wr => ∃ r : Nat, r ≤ 2 ∧ q = .int .i64 r ∧ wr.ownsRow w3.heap.size 3 1 v (accH p Z l r).length (Zv (accH p Z l r)) ∧ Below w3.heap.size w3 wr) (fun _ q _ => 2 - (intOf q).toNat)
  case atStart => exact ⟨0, by omega, rfl, by rw [HA0.out]; exact e4, b4⟩
  case round =>
    obtain ⟨r, hr, rfl, ho, hb⟩ := hrel
    by_cases hlt : r < 2
    · have hltI : (r : Int) < 2 := by omega
      have HS0 : Hid (accH p Z l (r + 1) = accH p Z l r ++ selH (decide (r = 1)) p Z l) := HAs.out r hlt
      have hAl := HAl.out r
      obtain ⟨A, hA⟩ : ∃ A, accH p Z l r = A := ⟨_, rfl⟩
      rw [hA] at ho HS0 hAl
      clear hA
      obtain ⟨R, hR⟩ : ∃ R, decide (r = 1) = R := ⟨_, rfl⟩
      have hR1 : ((r : Int) == 1) = R := by
        rw [← hR]
        by_cases h : r = 1
        · subst h; rfl
        · have : ¬ (r : Int) = 1 := by omega
          simp [h, this]
      have hR2 : decide ((r : Int) = 1) = R := by
        rw [← hR]
        by_cases h : r = 1
        · subst h; rfl
        · have : ¬ (r : Int) = 1 := by omega
          simp [h, this]
      rw [hR] at HS0
      go_wp2
      go_loopw [9, 11] (fun v i wq => ∃ (k : Nat) (S : List Int), k ≤ l.length ∧ i = .int .i64 k ∧ Hid (A ++ selH R p Z (l.take k) = S) ∧ S.length ≤ 2 * l.length + k ∧ wq.ownsRow w3.heap.size 3 1 v S.length (Zv S) ∧ Below w3.heap.size w3 wq) (fun _ i _ => l.length - (intOf i).toNat)
      case atStart => exact ⟨0, A, Nat.zero_le _, rfl, by show A ++ selH R p Z (l.take 0) = A; rw [List.take_zero]; exact List.append_nil A, by omega, ho, hb⟩
      case round =>
        obtain ⟨k, S, hk, rfl, HS, hSl, ho, hB⟩ := hrel
        clear hb
        obtain ⟨aS, cS, rfl⟩ := Zv_shape ho
        have q2 := r2.below hB
        have q3 := r3.below hB
        have ql := rl.below hB
        have hB9 := hB.size
        by_cases hkl : k < l.length
        · have hklI : (k : Int) < (l.length : Int) := by omega
          have HT : Hid (A ++ selH R p Z (l.take (k + 1)) = S ++ (if l[k].1 ∈ p then [] else if (decide (l[k].2.1 ∈ Z) == R) = true then [l[k].1] else [])) := by
            show A ++ selH R p Z (l.take (k + 1)) = _
            rw [selH_step hkl, ← List.append_assoc, HS.out]
          obtain ⟨b1, o1, rfl, x0, x1, -⟩ := ql k hkl
          generalize l[k] = d at HT x0 x1
          obtain ⟨i, z, n⟩ := d
          dsimp only at HT x0 x1
          clear HS
          by_cases hin : i ∈ p
          · have HS' : Hid (A ++ selH R p Z (l.take (k + 1)) = S) := by
              show A ++ selH R p Z (l.take (k + 1)) = S
              rw [HT.out, if_pos hin, List.append_nil]
            have hd := decide_eq_true hin
            have c1 := cH1 a2 c2 i wr q2
            rw [hd] at c1
            clear HT hd hin
            go_wp2_with fail
            refine c1.mono ?_
            rintro e wa ⟨rfl, hwa⟩
            subst wa
            go_wp2
            go_roundw
            case rel => exact ⟨k + 1, S, by omega, by go_num, HS', by omega, ho, hB⟩
            case measure => simp [intOf]; omega
          · have hd := decide_eq_false hin
            have c1 := cH1 a2 c2 i wr q2
            rw [hd] at c1
            have cz := cH2 a3 c3 z wr q3
            by_cases hz : (decide (z ∈ Z) == R) = true
            · have HS' : Hid (A ++ selH R p Z (l.take (k + 1)) = S ++ [i]) := by
                show A ++ selH R p Z (l.take (k + 1)) = S ++ [i]
                rw [HT.out, if_neg hin, if_pos hz]
              obtain rfl : decide (z ∈ Z) = R := by simpa using hz
              generalize decide (z ∈ Z) = R at *
              clear HT hd hin hz HS0
              go_wp2_with fail
              refine c1.mono ?_
              rintro e wa ⟨rfl, hwa⟩
              subst wa
              go_wp2_with fail
              refine cz.mono ?_
              rintro e wa ⟨rfl, hwa⟩
              subst wa
              have ho5 := ownOn ho (bel1 wr (.cells #[.int .i64 i] 3))
              have hB5 := behind hB (bel1 wr (.cells #[.int .i64 i] 3))
              go_wp2_with (at_builtin; refine wpList_append_own _ rfl (.tmp 49) (.tmp 55) 32 rfl w3.heap.size 3 i0 _ 1 8 Try.underlying32 hif hz0 hz1 hz2 rfl (by decide) _ _ _ rfl ho5 ⟨_, 0, none⟩ 1 1 [.int .i64 i] rfl rfl oneZ_at oneZ_one (by unfold maxLen; omega) (by omega) (by simp; omega) ?_; intro v6 w6 hown6 hgrow6 hnil6)
              have hB6 := grownOwn hB5 ho5 hgrow6 (by simp; omega)
              have ho6 : w6.ownsRow w3.heap.size 3 1 v6 (S ++ [i]).length (Zv (S ++ [i])) := by
                rw [Zv_snoc, List.length_append]; exact hown6
              clear hown6 hgrow6 hnil6 ho5 hB5 hB ho x0 x1
              go_wp2
              go_roundw
              case rel => exact ⟨k + 1, S ++ [i], by omega, by go_num, HS', by simp; omega, ho6, hB6⟩
              case measure => simp [intOf]; omega
            · have HS' : Hid (A ++ selH R p Z (l.take (k + 1)) = S) := by
                show A ++ selH R p Z (l.take (k + 1)) = S
                rw [HT.out, if_neg hin, if_neg hz, List.append_nil]
              have hz1 : (decide (z ∈ Z) == R) = false := by simpa using hz
              have hz2 : ¬ decide (z ∈ Z) = R := by simpa using hz
              clear HT hd hin hz HS0
              generalize decide (z ∈ Z) = B at *
              go_wp2_with fail
              refine c1.mono ?_
              rintro e wa ⟨rfl, hwa⟩
              subst wa
              go_wp2_with fail
              refine cz.mono ?_
              rintro e wa ⟨rfl, hwa⟩
              subst wa
              go_wp2
              go_roundw
              case rel => exact ⟨k + 1, S, by omega, by go_num, HS', by omega, ho, hB⟩
              case measure => simp [intOf]; omega
        · have e9 : S = accH p Z l (r + 1) := by
            have := HS.out
            rw [List.take_of_length_le (by omega)] at this
            rw [HS0.out]
            exact this.symm
          subst e9
          have hklI : ¬ (k : Int) < (l.length : Int) := by omega
          clear HS
          go_wp2
          go_roundw
          case rel => exact ⟨r + 1, by omega, by go_num, ho, hB⟩
          case measure => simp [intOf]; omega
    · obtain rfl : r = 2 := by omega
      obtain ⟨a9, c9, rfl⟩ := Zv_shape ho
      go_wp2
      go_ret
      exact ⟨a9, c9, rfl, ho.mono hB3.size, hB3.trans (hb.mono hB3.size)⟩
end Go.Proofs.Ytcejeiakgmamdac.Wk
