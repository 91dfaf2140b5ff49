/- What GetText of the specification comes to: getText of the bytes; the world stays. -/
import Derived.Test.YtpejeoekpejbladGetNumW
namespace Go.Proofs.Ytpejeoekpejblad.Wk
set_option linter.unusedVariables false
open Go.ChangeShapes Go.WideShapes Go.ChangeAt Go.RowKit

set_option maxHeartbeats 400000 in
set_option maxRecDepth 100000 in
theorem specGetText (a : Option Addr) (cap : Nat) (l : List UInt8) (p : Int) (w : World) (hl : l.length ≤ 1048576) (hcap : l.length ≤ cap) (hcm : cap ≤ maxLen) (hr : RdA w a l) :
    Calls Try.prog 36 #[.slice a l.length cap, .int .i64 p] w fun e w' => e = .returned (textV (Mt.getText l p)) ∧ w' = w := by
  have hcm' := hcm
  unfold maxLen at hcm
  cases hG : Mt.getNum l p with
  | none =>
    rw [Mt.getText_none l p hG]
    have HG : Hid (Mt.getNum l p = none) := hG
    clear hG
    go_enter Try.func36, Try.ntmps36
    go_wp2_with fail
    refine (specGetNum a cap l p _ hl hr).mono ?_
    rw [HG.out]
    rintro e w2 ⟨rfl, rfl⟩
    simp only [numV]
    go_wp2
    go_ret3
    exact ⟨rfl, rfl⟩
  | some x =>
    obtain ⟨n, k⟩ := x
    obtain ⟨hk, hn, hp0, hp1⟩ := Mt.getNum_le l p n k hG
    by_cases hle : n ≤ l.length - k
    · rw [Mt.getText_good l p n k hG hle]
      have HG : Hid (Mt.getNum l p = some (n, k)) := hG
      clear hG
      obtain ⟨b, off, rfl, -⟩ := hr 0 (by omega)
      have hlen : ((l.drop k).take n).length = n := by simp; omega
      have hcv := run_convert_bytes_back (P := Try.prog) w 22 9 5 ⟨b, off + k, none⟩ (cap - k) ((l.drop k).take n) Try.underlying22 Try.underlying5 Try.underlying9 (by
        intro j hj
        obtain ⟨b', off', hbo, hc⟩ := hr (k + j) (by rw [hlen] at hj; omega)
        simp only [Option.some.injEq, Addr.mk.injEq, and_true] at hbo
        obtain ⟨rfl, rfl⟩ := hbo
        rw [Go.WideShapes.add_plain, Nat.add_assoc, hc]
        simp)
      rw [hlen] at hcv
      by_cases hck : cap = k
      · have hn0 : n = 0 := by omega
        subst hn0
        have hcv0 := run_convert_bytes_back (P := Try.prog) w 22 9 5 ⟨b, off, none⟩ 0 [] Try.underlying22 Try.underlying5 Try.underlying9 (by intro j hj; simp at hj)
        rw [List.length_nil] at hcv0
        clear hcv hlen
        rw [List.take_zero]
        subst hck
        go_enter Try.func36, Try.ntmps36
        go_wp2_with fail
        refine (specGetNum _ cap l p _ hl hr).mono ?_
        rw [HG.out]
        rintro e w2 ⟨rfl, rfl⟩
        simp only [numV]
        go_wp2
        go_ret3
        exact ⟨rfl, rfl⟩
      · have hck' : k < cap := by omega
        clear hck
        generalize (l.drop k).take n = t at hcv
        clear hlen
        go_enter Try.func36, Try.ntmps36
        go_wp2_with fail
        refine (specGetNum _ cap l p _ hl hr).mono ?_
        rw [HG.out]
        rintro e w2 ⟨rfl, rfl⟩
        simp only [numV]
        go_wp2
        go_ret3
        exact ⟨rfl, rfl⟩
    · rw [Mt.getText_bad l p n k hG hle]
      have HG : Hid (Mt.getNum l p = some (n, k)) := hG
      clear hG
      go_enter Try.func36, Try.ntmps36
      go_wp2_with fail
      refine (specGetNum a cap l p _ hl hr).mono ?_
      rw [HG.out]
      rintro e w2 ⟨rfl, rfl⟩
      simp only [numV]
      go_wp2
      go_ret3
      exact ⟨rfl, rfl⟩

end Go.Proofs.Ytpejeoekpejblad.Wk
