/- What PutNum of the specification comes to: the bytes, and behind them the number's groups, in memory of its own. -/
import Derived.Test.YtpejeoekpejbladBy
namespace Go.Proofs.Ytpejeoekpejblad.Wk
set_option linter.unusedVariables false
open Go.ChangeShapes Go.WideShapes Go.ChangeAt Go.RowKit

set_option maxHeartbeats 1000000 in
set_option maxRecDepth 100000 in
theorem specPutNum (b off cap : Nat) (l : List UInt8) (n : Int) (w : World) (hl : l.length ≤ 1048576) (hr : RdA w (some ⟨b, off, none⟩) l) :
    Calls Try.prog 44 #[.slice (some ⟨b, off, none⟩) l.length cap, .int .i64 n] w fun e w' => ∃ v, e = .returned v ∧ OwnB w' w.heap.size v (l ++ Mt.enc (Mt.clamp n)) ∧ Below w.heap.size w w' := by
  obtain ⟨i0, hi, hz0, hz1, hz2⟩ := info_parts Try.info5
  have hr1 : RdA (w.alloc (.cells #[] 5)) (some ⟨b, off, none⟩) l := hr.below ((Below.refl _ _).alloc (Nat.le_refl _) _)
  have hown1 : (w.alloc (.cells #[] 5)).ownsRow w.heap.size 5 1 (.slice (some ⟨w.heap.size, 0, none⟩) 0 0) 0 [] := World.ownsRow_made w #[] 0 (Nat.le_refl _) (Nat.zero_le _) rfl
  have hcl := Mt.clamp_le n
  have HE0 : Hid (l ++ Mt.encGo 4 (Mt.clamp n) = l ++ Mt.enc (Mt.clamp n)) := rfl
  have HL : Hid ((l ++ Mt.enc (Mt.clamp n)).length ≤ 1048581) := by have := Mt.enc_len (Mt.clamp n); show _ ≤ _; simp only [List.length_append]; omega
  have HF : Hid (Mt.clamp n < 128 ^ (4 + 1)) := Mt.enc_fits n
  obtain ⟨N, hN⟩ : ∃ N, Mt.clamp n = N := ⟨_, rfl⟩
  have hc3 : n < 0 ∧ N = 0 ∨ (1000000000 < n ∧ N = 1000000000) ∨ (0 ≤ n ∧ n ≤ 1000000000 ∧ n = (N : Int)) := by
    rw [← hN]; unfold Mt.clamp; split; · exact .inl ⟨by assumption, rfl⟩
    split
    · exact .inr (.inl ⟨by assumption, rfl⟩)
    · exact .inr (.inr ⟨by omega, by omega, by omega⟩)
  rw [hN] at hcl HE0 HL HF ⊢
  generalize l ++ Mt.enc N = R at HE0 HL ⊢
  clear hN
  rcases hc3 with ⟨h, rfl⟩ | ⟨h, rfl⟩ | ⟨h, h', rfl⟩
  all_goals
    go_enter Try.func44, Try.ntmps44
    go_wp2_with (at_builtin; refine wpList_append_own _ rfl (.tmp 6) (.tmp 7) 22 rfl w.heap.size 5 i0 (.int .u8 0) 1 1 Try.underlying22 hi hz0 hz1 hz2 rfl (by decide) (.slice (some ⟨w.heap.size, 0, none⟩) 0 0) 0 [] rfl hown1 ⟨b, off, none⟩ l.length cap (By l) rfl (by simp [By_length]) hr1.news (By_one l) (by unfold maxLen; omega) (by omega) (by simp) ?_; intro v w1 hown hgrow _)
    have hb1 : Below w.heap.size w w1 := ((Below.refl _ _).alloc (Nat.le_refl _) _).grown hgrow (by simp) (fun j hj => (hown1.lt j hj).1)
    have ho1 : OwnB w1 w.heap.size v l := OwnB.all hown
    clear hown hgrow hown1 hr1
    go_loopw [1, 5] (fun x v wr => ∃ (r f : Nat) (pre : List UInt8), x = .int .i64 r ∧ r ≤ 1000000000 ∧ Hid (r < 128 ^ (f + 1)) ∧ OwnB wr w.heap.size v pre ∧ Hid (pre ++ Mt.encGo f r = R) ∧ Below w.heap.size w wr) (fun x _ _ => (intOf x).toNat)
    case atStart => exact ⟨_, 4, l, rfl, hcl, HF, ho1, HE0, hb1⟩
    case round =>
      obtain ⟨r, f, pre, rfl, hr9, Hf, hown, HE, hb⟩ := hrel
      clear ho1 hb1
      have hlen : pre.length + 1 ≤ 1048581 := by
        have h1 := (Mt.encGo_len f r).1
        have h2 := HL.out
        rw [← HE.out, List.length_append] at h2
        omega
      have hsz := hb.size
      by_cases hlt : 128 ≤ r
      · obtain ⟨f', e1, e2⟩ := Mt.encGo_more f r hlt Hf.out
        have HX : Hid (Mt.encGo f r = UInt8.ofNat (r % 128 + 128) :: Mt.encGo f' (r / 128)) := e1
        have HY : Hid (r / 128 < 128 ^ (f' + 1)) := e2
        have hX := Mt.or128 r (by omega)
        generalize UInt8.ofNat (r % 128 + 128) = c at HX hX
        clear e1 e2
        go_wp2_with (at_builtin; refine wpList_append_own _ rfl (.tmp 15) (.tmp 20) 22 rfl w.heap.size 5 i0 (.int .u8 0) 1 1 Try.underlying22 hi hz0 hz1 hz2 rfl (by decide) _ _ _ rfl (World.ownsRow.alloc hown _) ⟨wr.heap.size, 0, none⟩ 1 1 [.int .u8 (c.toNat : Int)] rfl rfl one_at one_one (by unfold maxLen; omega) (by omega) (by simp; omega) ?_; intro v2 w2 hown2 hgrow2 _)
        have hb2 := below_own hb hsz hown hgrow2
        have ho2 : OwnB w2 w.heap.size v2 (pre ++ [c]) := OwnB.snoc rfl hown2
        clear hown2 hgrow2 hX
        go_wp2
        go_roundw
        case rel => exact ⟨r / 128, f', pre ++ [c], by go_num, by omega, HY, ho2, by rw [List.append_assoc]; rw [HX.out] at HE; exact HE, hb2⟩
        case measure => simp [intOf]; omega
      · go_wp2_with (at_builtin; refine wpList_append_own _ rfl (.tmp 24) (.tmp 27) 22 rfl w.heap.size 5 i0 (.int .u8 0) 1 1 Try.underlying22 hi hz0 hz1 hz2 rfl (by decide) _ _ _ rfl (World.ownsRow.alloc hown _) ⟨wr.heap.size, 0, none⟩ 1 1 [.int .u8 (r : Int)] rfl rfl one_at one_one (by unfold maxLen; omega) (by omega) (by simp; omega) ?_; intro v2 w2 hown2 hgrow2 _)
        have hb2 := below_own hb hsz hown hgrow2
        have ho2 : OwnB w2 w.heap.size v2 (pre ++ [UInt8.ofNat r]) := OwnB.snoc (byte_of r (by omega)).symm hown2
        rw [Mt.encGo_last f r (by omega)] at HE
        go_wp2
        go_ret
        exact ⟨_, rfl, by rw [← HE.out]; exact ho2, hb2⟩
end Go.Proofs.Ytpejeoekpejblad.Wk
