/- What PutText of the specification comes to: the bytes, the groups of the text's length, the text's bytes, in memory of its own. -/
import Derived.Test.YtpejeoekpejbladPutNumW
namespace Go.Proofs.Ytpejeoekpejblad.Wk
set_option linter.unusedVariables false
open Go.ChangeShapes Go.WideShapes Go.ChangeAt Go.RowKit

set_option maxHeartbeats 400000 in
set_option maxRecDepth 100000 in
theorem specPutText (b off cap : Nat) (l : List UInt8) (s : ByteArray) (w : World) (hl : l.length ≤ 1048576) (hs : s.size ≤ 1048576) (hr : RdA w (some ⟨b, off, none⟩) l) :
    Calls Try.prog 43 #[.slice (some ⟨b, off, none⟩) l.length cap, .string s] w fun e w' => ∃ v, e = .returned v ∧ OwnB w' w.heap.size v (putT l s) ∧ Below w.heap.size w w' := by
  obtain ⟨i0, hi, hz0, hz1, hz2⟩ := info_parts Try.info5
  have hE := Mt.enc_len (Mt.clamp (s.size : Int))
  have hEl : (l ++ Mt.enc (Mt.clamp (s.size : Int))).length ≤ 1048581 := by rw [List.length_append]; omega
  clear hE
  go_enter Try.func43, Try.ntmps43
  go_wp2_with fail
  refine (specPutNum b off cap l _ _ hl hr).mono ?_
  rintro e w1 ⟨v, rfl, hv, hb⟩
  have hsz := hb.size
  go_wp2_with (at_builtin; refine Lib.wpList_append_own_string _ rfl (.tmp 8) (.tmp 9) 22 9 rfl w.heap.size 5 i0 Try.underlying22 Try.underlying9 hi hz0 hz1 hz2 v _ _ rfl hv s rfl (by unfold maxLen; omega) (by omega) hsz ?_; intro v2 w2 hown2 hgrow2 _)
  go_ret
  exact ⟨_, rfl, OwnB.text hown2, hb.grown hgrow2 hsz (fun j hj => (World.ownsRow.lt hv j hj).1)⟩

end Go.Proofs.Ytpejeoekpejblad.Wk
