/- What FileOk, Newer, SumOf and deadMark of the program come to. -/
import Derived.Test.YtpejeoekpejbladFlS
import Derived.Test.YtpejeoekpejbladOkI
import Derived.Test.YtpejeoekpejbladLessI
import Derived.Test.YtpejeoekpejbladCrcW
namespace Go.Proofs.Ytpejeoekpejblad.Wk
set_option linter.unusedVariables false
open Go.ChangeShapes Go.WideShapes Go.ChangeAt Go.RowKit

theorem ret_b {b c : Bool} (h : b = c) : Ending.returned (.bool b) = .returned (.bool c) := by rw [h]

set_option maxHeartbeats 2000000 in
set_option maxRecDepth 100000 in
theorem implFile (t q n : Int) (d : Bool) (a : Option Addr) (k cap : Nat) (w : World) (hk : k ≤ 1048576) :
    Calls Try.prog 9 #[.agg #[.int .i64 t, .int .i64 q, .int .i64 n, .bool d, .slice a k cap]] w fun e w' => e = .returned (.bool (fileB t q n d k)) ∧ Below w.heap.size w w' := by
  have HE : Hid (fileB t q n d k = (Sm.ok t q n && (decide (k ≤ 200) && (!d || decide (k = 0))))) := rfl
  generalize fileB t q n d k = G at HE ⊢
  have cO := fun w => implOk t q n w
  generalize Sm.ok t q n = K at HE cO
  have s0 := slot5fNew w (.int .i64 t) (.int .i64 q) (.int .i64 n) (.bool d) (.slice a k cap) 27
  have b0 := bel1 w (.cells #[.int .i64 t, .int .i64 q, .int .i64 n, .bool d, .slice a k cap] 27)
  obtain ⟨⟨c0, c1, c2, c3, c4⟩, -⟩ := id s0
  by_cases hd : d = true ∧ 0 < k
  · obtain ⟨rfl, h0⟩ := hd
    have hG : G = false := by rw [HE.out]; have : ¬ k = 0 := by omega
                              simp [this]
    subst hG
    clear HE
    go_enter Try.func9, Try.ntmps9
    go_wp2
    go_ret
    exact ⟨rfl, b0⟩
  · have hG : G = (K && decide (k ≤ 200)) := by
      rw [HE.out]
      cases d with
      | false => simp
      | true => have : k = 0 := by simp at hd; exact hd
                simp [this]
    subst hG
    clear HE
    cases d with
    | false =>
      cases K with
      | false =>
        go_enter Try.func9, Try.ntmps9
        go_wp2_with fail
        refine (cO _).mono ?_
        rintro e w2 ⟨rfl, hb2⟩
        go_wp2
        go_ret
        exact ⟨rfl, behind b0 hb2⟩
      | true =>
        go_enter Try.func9, Try.ntmps9
        go_wp2_with fail
        refine (cO _).mono ?_
        rintro e w2 ⟨rfl, hb2⟩
        obtain ⟨⟨d0, d1, d2, d3, d4⟩, -⟩ := s0.below hb2
        go_wp2
        go_ret
        exact ⟨ret_b (by simp only [Bool.true_and]; exact decide_eq_decide.2 (by omega)), behind b0 hb2⟩
    | true =>
      have hk0 : k = 0 := by simp at hd; exact hd
      subst hk0
      cases K with
      | false =>
        go_enter Try.func9, Try.ntmps9
        go_wp2_with fail
        refine (cO _).mono ?_
        rintro e w2 ⟨rfl, hb2⟩
        go_wp2
        go_ret
        exact ⟨rfl, behind b0 hb2⟩
      | true =>
        go_enter Try.func9, Try.ntmps9
        go_wp2_with fail
        refine (cO _).mono ?_
        rintro e w2 ⟨rfl, hb2⟩
        obtain ⟨⟨d0, d1, d2, d3, d4⟩, -⟩ := s0.below hb2
        go_wp2
        go_ret
        exact ⟨rfl, behind b0 hb2⟩

theorem deadMark (d : Bool) (w : World) : Calls Try.prog 23 #[.bool d] w fun e w' => e = .returned (.int .i64 (d01 d)) ∧ w' = w := by
  cases d
  · go_enter Try.func23, Try.ntmps23
    go_wp2
    go_ret
    exact ⟨rfl, rfl⟩
  · go_enter Try.func23, Try.ntmps23
    go_wp2
    go_ret
    exact ⟨rfl, rfl⟩

set_option maxHeartbeats 2000000 in
set_option maxRecDepth 100000 in
theorem implNewer (t q n : Int) (d : Bool) (v : Value) (t' q' n' : Int) (d' : Bool) (v' : Value) (w : World) :
    Calls Try.prog 18 #[.agg #[.int .i64 t, .int .i64 q, .int .i64 n, .bool d, v], .agg #[.int .i64 t', .int .i64 q', .int .i64 n', .bool d', v']] w fun e w' => e = .returned (.bool (Sm.less t' q' n' t q n)) ∧ Below w.heap.size w w' := by
  have cL := fun w => implLess t' q' n' t q n w
  have b0 := bel1 w (.cells #[.int .i64 t, .int .i64 q, .int .i64 n, .bool d, v] 27)
  have b1 := behind b0 (bel1 (w.alloc (.cells #[.int .i64 t, .int .i64 q, .int .i64 n, .bool d, v] 27)) (.cells #[.int .i64 t', .int .i64 q', .int .i64 n', .bool d', v'] 27))
  go_enter Try.func18, Try.ntmps18
  go_wp2_with fail
  refine (cL _).mono ?_
  rintro e w2 ⟨rfl, hb2⟩
  go_wp2
  go_ret
  exact ⟨rfl, behind b1 hb2⟩

set_option maxHeartbeats 2000000 in
set_option maxRecDepth 100000 in
theorem implSumOf (t q n : Int) (d : Bool) (a : Option Addr) (cap : Nat) (data : List UInt8) (w : World) (hk : data.length ≤ 1048576) (hr : RdA w a data) :
    Calls Try.prog 13 #[.agg #[.int .i64 t, .int .i64 q, .int .i64 n, .bool d, .slice a data.length cap]] w fun e w' => e = .returned (.int .i64 (Mt.crcN data)) ∧ Below w.heap.size w w' := by
  have b0 := bel1 w (.cells #[.int .i64 t, .int .i64 q, .int .i64 n, .bool d, .slice a data.length cap] 27)
  have cC := implCrc a cap data (w.alloc (.cells #[.int .i64 t, .int .i64 q, .int .i64 n, .bool d, .slice a data.length cap] 27)) hk (hr.below b0)
  generalize Mt.crcN data = X at cC ⊢
  go_enter Try.func13, Try.ntmps13
  go_wp2_with fail
  refine cC.mono ?_
  rintro e w2 ⟨rfl, hb2⟩
  go_wp2
  go_ret
  exact ⟨rfl, behind b0 hb2⟩

end Go.Proofs.Ytpejeoekpejblad.Wk
