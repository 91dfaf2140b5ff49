/- What putNums of the program comes to where it is handed no bytes at all: the groups of each number, in memory of its own. -/
import Derived.Test.YtpejeoekpejbladBy
import Derived.Laws.AppendOwnNone
namespace Go.Proofs.Ytpejeoekpejblad.Wk
set_option linter.unusedVariables false
open Go.ChangeShapes Go.WideShapes Go.ChangeAt Go.RowKit

set_option maxHeartbeats 2000000 in
set_option maxRecDepth 100000 in
theorem putNumsNil (a : Option Addr) (ca : Nat) (ns : List Int) (w : World) (hm : ns.length ≤ 1000) (hn : RdI w a ns) :
    Calls Try.prog 22 #[.slice none 0 0, .slice a ns.length ca] w fun e w' => ∃ v, e = .returned v ∧ OwnB w' w.heap.size v (Mt.encs ns) ∧ Below w.heap.size w w' := by
  obtain ⟨l, hl0⟩ : ∃ l : List UInt8, l = [] := ⟨_, rfl⟩
  have hl : l.length ≤ 2097152 := by rw [hl0]; exact Nat.zero_le _
  have hres : l ++ Mt.encs ns = Mt.encs ns := by rw [hl0]; rfl
  rw [← hres]
  clear hres
  have HL0 : Hid (l = []) := hl0
  clear hl0
  obtain ⟨i0, hi, hz0, hz1, hz2⟩ := info_parts Try.info5
  have hown1 : (w.alloc (.cells #[] 5)).ownsRow w.heap.size 5 1 (.slice (some ⟨w.heap.size, 0, none⟩) 0 0) 0 [] := World.ownsRow_made w #[] 0 (Nat.le_refl _) (Nat.zero_le _) rfl
  have hb0 : Below w.heap.size w (w.alloc (.cells #[] 5)) := (Below.refl _ _).alloc (Nat.le_refl _) _
  have ho0 : OwnB (w.alloc (.cells #[] 5)) w.heap.size (.slice (some ⟨w.heap.size, 0, none⟩) 0 0) (l ++ Mt.encs (ns.take 0)) := by rw [HL0.out]; exact hown1
  go_enter Try.func22, Try.ntmps22
  go_wp2_with (at_builtin; refine wpList_append_own_none rfl (.tmp 9) (.tmp 10) 22 rfl w.heap.size 5 i0 1 Try.underlying22 hi hz1 (.slice (some ⟨w.heap.size, 0, none⟩) 0 0) 0 [] rfl hown1 rfl ?_)
  generalize w.alloc (.cells #[] 5) = w1 at hown1 hb0 ho0 ⊢
  obtain ⟨v, hv⟩ : ∃ v, Value.slice (some ⟨w.heap.size, 0, none⟩) 0 0 = v := ⟨_, rfl⟩
  rw [hv] at ho0
  try rw [hv]
  have ho1 := ho0
  have hb1 := hb0
  clear hown1 hb0 ho0
  go_loopw [5, 14] (fun v i wr => ∃ k : Nat, k ≤ ns.length ∧ i = .int .i64 k ∧ OwnB wr w.heap.size v (l ++ Mt.encs (ns.take k)) ∧ Below w.heap.size w wr) (fun _ i _ => ns.length - (intOf i).toNat)
  case atStart => exact ⟨0, Nat.zero_le _, rfl, ho1, hb1⟩
  case round =>
    obtain ⟨k, hk, rfl, hown, hb⟩ := hrel
    clear ho1 hb1
    by_cases hlt : k < ns.length
    · obtain ⟨q, o, rfl, hcell⟩ := (hn.below hb) k hlt
      have HR : Hid (l ++ Mt.encs (ns.take (k + 1)) = (l ++ Mt.encs (ns.take k)) ++ Mt.encGo 4 (Mt.clamp ns[k])) := by
        show _ = _
        rw [List.take_succ_eq_append_getElem hlt, Mt.encs_snoc, List.append_assoc]; rfl
      have HL : Hid ((l ++ Mt.encs (ns.take (k + 1))).length ≤ 2102152) := by
        have h1 := Mt.encs_len (ns.take (k + 1))
        have h2 : (ns.take (k + 1)).length ≤ 1000 := by rw [List.length_take]; omega
        show _ ≤ _
        rw [List.length_append]; omega
      have HF : Hid (Mt.clamp ns[k] < 128 ^ (4 + 1)) := Mt.enc_fits ns[k]
      have hcl := Mt.clamp_le ns[k]
      have hc3 := Mt.clamp3 ns[k]
      obtain ⟨R, HRR⟩ : ∃ R, Hid (l ++ Mt.encs (ns.take (k + 1)) = R) := ⟨_, rfl⟩
      rw [HRR.out] at HR HL
      generalize l ++ Mt.encs (ns.take k) = P at HR hown
      generalize Mt.clamp ns[k] = N at HR HF hcl hc3
      generalize ns[k] = n at hcell hc3
      rcases hc3 with ⟨h, rfl⟩ | ⟨h, rfl⟩ | ⟨h, h', rfl⟩
      all_goals
        go_wp2
        go_loopw [5, 8] (fun v x wr => ∃ (r f : Nat) (pre : List UInt8), x = .int .i64 r ∧ r ≤ 1000000000 ∧ Hid (r < 128 ^ (f + 1)) ∧ OwnB wr w.heap.size v pre ∧ Hid (pre ++ Mt.encGo f r = R) ∧ Below w.heap.size w wr) (fun _ x _ => (intOf x).toNat)
        case atStart => exact ⟨_, 4, P, rfl, hcl, HF, hown, HR.out.symm, hb⟩
        case round =>
          clear hown hb hcell
          obtain ⟨r, f, pre, rfl, hr9, Hf, hown, HE, hb⟩ := hrel
          have hlen : pre.length + 1 ≤ 2102152 := by
            have h1 := (Mt.encGo_len f r).1
            have h2 := HL.out
            rw [← HE.out, List.length_append] at h2
            omega
          have hsz := hb.size
          by_cases hlt2 : 128 ≤ r
          · obtain ⟨f', e1, e2⟩ := Mt.encGo_more f r hlt2 Hf.out
            have HX : Hid (Mt.encGo f r = UInt8.ofNat (r % 128 + 128) :: Mt.encGo f' (r / 128)) := e1
            have HY : Hid (r / 128 < 128 ^ (f' + 1)) := e2
            clear e1 e2
            go_wp2_with (at_builtin; refine wpList_append_own _ rfl (.tmp 23) (.tmp 28) 22 rfl w.heap.size 5 i0 (.int .u8 0) 1 1 Try.underlying22 hi hz0 hz1 hz2 rfl (by decide) _ _ _ rfl (World.ownsRow.alloc hown _) ⟨_, 0, none⟩ 1 1 [.int .u8 ((r : Int) % 128 + 128)] rfl rfl one_at one_one (by unfold maxLen; omega) (by omega) (by simp; omega) ?_; intro v2 w2 hown2 hgrow2 _)
            have hb2 := below_own hb hsz hown hgrow2
            have ho2 : OwnB w2 w.heap.size v2 (pre ++ [UInt8.ofNat (r % 128 + 128)]) := OwnB.snoc (Mt.byte128 r) hown2
            clear hown2 hgrow2
            go_roundw
            case rel => exact ⟨r / 128, f', pre ++ [UInt8.ofNat (r % 128 + 128)], by go_num, by omega, HY, ho2, by rw [List.append_assoc]; rw [HX.out] at HE; exact HE, hb2⟩
            case measure => simp [intOf]; omega
          · go_wp2_with (at_builtin; refine wpList_append_own _ rfl (.tmp 32) (.tmp 35) 22 rfl w.heap.size 5 i0 (.int .u8 0) 1 1 Try.underlying22 hi hz0 hz1 hz2 rfl (by decide) _ _ _ rfl (World.ownsRow.alloc hown _) ⟨_, 0, none⟩ 1 1 [.int .u8 (r : Int)] rfl rfl one_at one_one (by unfold maxLen; omega) (by omega) (by simp; omega) ?_; intro v2 w2 hown2 hgrow2 _)
            have hb2 := below_own hb hsz hown hgrow2
            have ho2 : OwnB w2 w.heap.size v2 (pre ++ [UInt8.ofNat r]) := OwnB.snoc (byte_of r (by omega)).symm hown2
            rw [Mt.encGo_last f r (by omega)] at HE
            clear hown2 hgrow2
            go_roundw
            case rel => exact ⟨k + 1, by omega, by go_num, by rw [HRR.out, ← HE.out]; exact ho2, hb2⟩
            case measure => simp [intOf]; omega
    · go_wp2
      go_ret
      refine ⟨_, rfl, ?_, hb⟩
      rw [List.take_of_length_le (by omega)] at hown
      exact hown
end Go.Proofs.Ytpejeoekpejblad.Wk
