/- What PutText of the program comes to: the bytes, the groups of the text's length, the text's bytes, in memory of its own. -/
import Derived.Test.YtpejeoekpejbladPutNums
namespace Go.Proofs.Ytpejeoekpejblad.Wk
set_option linter.unusedVariables false
open Go.ChangeShapes Go.WideShapes Go.ChangeAt Go.RowKit

set_option maxHeartbeats 400000 in
set_option maxRecDepth 100000 in
theorem implPutText (b off cap : Nat) (l : List UInt8) (s : ByteArray) (w : World) (hl : l.length ≤ 1048576) (hs : s.size ≤ 1048576) (hr : RdA w (some ⟨b, off, none⟩) l) :
    Calls Try.prog 24 #[.slice (some ⟨b, off, none⟩) l.length cap, .string s] w fun e w' => ∃ v, e = .returned v ∧ OwnB w' w.heap.size v (putT l s) ∧ Below w.heap.size w w' := by
  obtain ⟨i0, hi, hz0, hz1, hz2⟩ := info_parts Try.info5
  have hE := Mt.enc_len (Mt.clamp (s.size : Int))
  have hEl : (l ++ Mt.enc (Mt.clamp (s.size : Int))).length ≤ 1048581 := by rw [List.length_append]; omega
  clear hE
  have hb0 : Below w.heap.size w (w.alloc (.cells #[.int .i64 (s.size : Int)] 3)) := (Below.refl _ _).alloc (Nat.le_refl _) _
  have hI : RdI (w.alloc (.cells #[.int .i64 (s.size : Int)] 3)) (some ⟨w.heap.size, 0, none⟩) [(s.size : Int)] := by
    intro i hi
    have : i = 0 := by simp at hi; omega
    subst this
    exact ⟨w.heap.size, 0, rfl, by rw [World.cell?_alloc_at _ _ _ _ rfl]; rfl⟩
  go_enter Try.func24, Try.ntmps24
  go_wp2_with fail
  refine (putNums b off cap _ _ l [(s.size : Int)] _ (by omega) (by simp) (hr.below hb0) hI).mono ?_
  rw [Mt.encs_one]
  rintro e w1 ⟨v, rfl, hv0, hb1⟩
  have hv : OwnB w1 w.heap.size v (l ++ Mt.enc (Mt.clamp (s.size : Int))) := ownBase hv0 hb0.size
  have hb := hb0.trans (hb1.mono hb0.size)
  have hsz := hb.size
  clear hv0 hb1
  go_wp2_with (at_builtin; refine Lib.wpList_append_own_string _ rfl (.tmp 9) (.tmp 10) 22 9 rfl w.heap.size 5 i0 Try.underlying22 Try.underlying9 hi hz0 hz1 hz2 v _ _ rfl hv s rfl (by unfold maxLen; omega) (by omega) hsz ?_; intro v2 w2 hown2 hgrow2 _)
  go_ret
  exact ⟨_, rfl, OwnB.text hown2, hb.grown hgrow2 hsz (fun j hj => (World.ownsRow.lt hv j hj).1)⟩
end Go.Proofs.Ytpejeoekpejblad.Wk
