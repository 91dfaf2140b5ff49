/- The walk of l2Split at any byte. -/
import Derived.Test.YtekjnfkmjmmcmamDoorPcS
namespace Go.Proofs.YtekjnfkmjmmcmamDoor.Wk
set_option linter.unusedVariables false
open Go.ChangeShapes Go.WideShapes Go.ChangeAt Go.RowKit

theorem grownC {w w1 w2 : World} {r : Option Nat} (h : w.grownBy w1 r) (k : w1.grownBy w2 r) : w.grownBy w2 r :=
  ⟨k.os.trans h.os, k.tape.trans h.tape, k.output.trans h.output, Nat.le_trans h.size k.size, fun i hi hn => (k.block i (Nat.lt_of_lt_of_le hi h.size) hn).trans (h.block i hi hn)⟩
theorem getLC (s : ByteArray) (k : Nat) (h : k < s.size) (h' : k < s.data.toList.length) : s.data.toList[k] = s[k] := rfl

set_option maxHeartbeats 2000000 in
set_option maxRecDepth 100000 in
theorem l2SplC (d : UInt8) (s : ByteArray) (w : World) (hs : s.size ≤ 1048576) :
    Calls Tryd.prog 21 #[.string s, .int .u8 (d.toNat : Int)] w fun e w' => ∃ (a : Option Addr) (cp : Nat), e = .returned (.slice a (Pc.pieces d s.data.toList).length cp) ∧ RdTC w' a (Pc.pieces d s.data.toList) ∧ Below w.heap.size w w' ∧ ∀ x, a = some x → w.heap.size ≤ x.block := by
  have hlen : s.data.toList.length = s.size := by simp
  obtain ⟨i0, hi, hz0, hz1, hz2⟩ := info_parts infoStrC
  have hown1 : (w.alloc (.cells #[] 9)).ownsRow w.heap.size 9 1 (.slice (some ⟨w.heap.size, 0, none⟩) 0 0) 0 [] := World.ownsRow_made w #[] 0 (Nat.le_refl _) (Nat.zero_le _) rfl
  go_enter Tryd.func21, Tryd.ntmps21
  go_wp2
  go_loopw [5, 6, 7] (fun v fr i wr => ∃ (k f : Nat) (D : List (List UInt8)), k ≤ s.size + 1 ∧ f ≤ s.size + 1 ∧ D.length ≤ s.size + 1 ∧ i = .int .i64 k ∧ fr = .int .i64 f ∧ CutAt d s.data.toList k f D ∧ wr.ownsRow w.heap.size 9 1 v D.length (StrsC D) ∧ Below w.heap.size w wr ∧ w.heap.size < wr.heap.size) (fun _ _ i _ => s.size + 1 - (intOf i).toNat)
  case atStart => exact ⟨0, 0, [], by omega, by omega, Nat.zero_le _, rfl, rfl, cut_start d _, hown1, bel1 _ _, by simp⟩
  case round =>
    obtain ⟨k, f, D, hk, hf, hD, rfl, rfl, hsp, hown, hb, hsz⟩ := hrel
    clear hown1
    by_cases hlt : k < s.size
    · obtain ⟨hfk, hDk, -, -⟩ := cut_k hsp (by omega)
      have hne : (((k : Nat) : Int) == (s.size : Int)) = false := by simp; omega
      by_cases hc : s[k].toNat = d.toNat
      · have hcb : ((s[k].toNat : Int) == (d.toNat : Int)) = true := by simp [hc]
        have HX := cut_cut hsp (by omega) (by rw [getLC s k hlt (by omega)]; exact UInt8.toNat_inj.1 hc)
        have HE := extract_mkC s f k
        generalize (s.data.toList.drop f).take (k - f) = p at HX HE
        clear hsp hc
        go_wp2_with (at_builtin; refine wpList_append_own _ rfl (.tmp 26) (.tmp 31) 39 rfl w.heap.size 9 i0 (.string ByteArray.empty) 1 16 Tryd.underlying39 hi hz0 hz1 hz2 rfl (by decide) _ _ _ rfl (World.ownsRow.alloc hown _) ⟨_, 0, none⟩ 1 1 [.string ⟨p.toArray⟩] rfl rfl oneT_atC oneT_oneC (by unfold maxLen; omega) (by omega) (by simp; omega) ?_; intro v2 w2 hown2 hgrow2 hnil2)
        have hg2 : wr.grownBy w2 u5.ownBlock := grownC (World.grownBy_alloc wr _ u5.ownBlock) hgrow2
        have hlo : ∀ j, u5.ownBlock = some j → w.heap.size ≤ j := fun j e => (World.ownsRow.lt hown j e).1
        have hb2 : Below w.heap.size w w2 := hb.grown hg2 (by omega) hlo
        have ho2 : w2.ownsRow w.heap.size 9 1 v2 (D ++ [p]).length (StrsC (D ++ [p])) := by
          rw [Strs_snocC, List.length_append]; exact hown2
        have hs2 := hg2.size
        clear hown2 hgrow2 hnil2 HE
        go_roundw
        case rel => exact ⟨k + 1, k + 1, D ++ [p], by omega, by omega, by simp; omega, by go_num, by go_num, HX, ho2, hb2, by omega⟩
        case measure => simp [intOf]; omega
      · have hcb : ((s[k].toNat : Int) == (d.toNat : Int)) = false := by simp; omega
        have HX := cut_on hsp (by omega) (by rw [getLC s k hlt (by omega)]; intro e; rw [e] at hc; exact hc rfl)
        clear hsp hc
        go_wp2
        go_roundw
        case rel => exact ⟨k + 1, f, D, by omega, hf, hD, by go_num, rfl, HX, hown, hb, hsz⟩
        case measure => simp [intOf]; omega
    · by_cases heq : k = s.size
      · have heb : (((k : Nat) : Int) == (s.size : Int)) = true := by simp; omega
        rw [show k = s.data.toList.length from by omega] at hsp
        obtain ⟨hfk, hDk, -, -⟩ := cut_k hsp (Nat.le_refl _)
        have HX := cut_last hsp
        rw [show s.data.toList.length = k from by omega] at HX hfk hDk
        have HE := extract_mkC s f k
        generalize (s.data.toList.drop f).take (k - f) = p at HX HE
        clear hsp
        have hks : k ≤ s.size := by omega
        clear heq
        go_wp2_with (at_builtin; refine wpList_append_own _ rfl (.tmp 26) (.tmp 31) 39 rfl w.heap.size 9 i0 (.string ByteArray.empty) 1 16 Tryd.underlying39 hi hz0 hz1 hz2 rfl (by decide) _ _ _ rfl (World.ownsRow.alloc hown _) ⟨_, 0, none⟩ 1 1 [.string ⟨p.toArray⟩] rfl rfl oneT_atC oneT_oneC (by unfold maxLen; omega) (by omega) (by simp; omega) ?_; intro v2 w2 hown2 hgrow2 hnil2)
        have hg2 : wr.grownBy w2 u5.ownBlock := grownC (World.grownBy_alloc wr _ u5.ownBlock) hgrow2
        have hlo : ∀ j, u5.ownBlock = some j → w.heap.size ≤ j := fun j e => (World.ownsRow.lt hown j e).1
        have hb2 : Below w.heap.size w w2 := hb.grown hg2 (by omega) hlo
        have ho2 : w2.ownsRow w.heap.size 9 1 v2 (D ++ [p]).length (StrsC (D ++ [p])) := by
          rw [Strs_snocC, List.length_append]; exact hown2
        have hs2 := hg2.size
        clear hown2 hgrow2 hnil2 HE
        go_roundw
        case rel => exact ⟨k + 1, k + 1, D ++ [p], by omega, by omega, by simp; omega, by go_num, by go_num, HX, ho2, hb2, by omega⟩
        case measure => simp [intOf]; omega
      · have hP : D = Pc.pieces d s.data.toList := by
          rcases hsp with ⟨a, _⟩ | ⟨_, b⟩
          · omega
          · exact b
        rw [hP] at hown
        obtain ⟨a, cp, rfl, hrd, hnew⟩ := Strs_rdC hown
        have hgt : s.size < k := by omega
        clear hsp hP
        go_wp2
        go_ret
        exact ⟨a, cp, rfl, hrd, hb, hnew⟩
end Go.Proofs.YtekjnfkmjmmcmamDoor.Wk
