/- What l2Text of the specification comes to: the decimal digits. -/
import Derived.Test.YtekjnfkmjmmcmabDoorDot
import Derived.Laws.IdiomStrings
namespace Go.Proofs.YtekjnfkmjmmcmabDoor.Wk
set_option linter.unusedVariables false
open Go.ChangeShapes Go.WideShapes Go.ChangeAt Go.RowKit

/-- one new byte, as a text -/
theorem convAt (x : Int) (h0 : 0 ≤ x) (h1 : x < 256) (W : World) (b : Nat) (hc : W.cell? ⟨b, 0, none⟩ = some (.int .u8 x)) : (convert 22 9 (.slice (some ⟨b, 0, none⟩) 1 1)).run Tryd.prog W = .ok (.string ⟨#[UInt8.ofNat x.toNat]⟩) W := by
  refine run_convert_bytes_back (P := Tryd.prog) _ 22 9 5 ⟨b, 0, none⟩ 1 [UInt8.ofNat x.toNat] Tryd.underlying22 Tryd.underlying5 Tryd.underlying9 ?_
  intro j hj
  simp at hj
  subst hj
  have : ((UInt8.ofNat x.toNat).toNat : Int) = x := by simp; omega
  simp only [List.getElem_cons_zero, this]
  rw [add_plain]; exact hc
theorem convOne (x : Int) (h0 : 0 ≤ x) (h1 : x < 256) (w : World) : (convert 22 9 (.slice (some ⟨w.heap.size, 0, none⟩) 1 1)).run Tryd.prog (w.alloc (.cells #[.int .u8 x] 5)) = .ok (.string ⟨#[UInt8.ofNat x.toNat]⟩) (w.alloc (.cells #[.int .u8 x] 5)) :=
  convAt x h0 h1 _ _ (by rw [World.cell?_alloc_at _ _ _ _ rfl]; rfl)
theorem convDrew (x : Int) (h0 : 0 ≤ x) (h1 : x < 256) (w : World) : (convert 22 9 (.slice (some ⟨w.heap.size, 0, none⟩) 1 1)).run Tryd.prog (w.alloc (.cells #[.int .u8 x] 5)).drew = .ok (.string ⟨#[UInt8.ofNat x.toNat]⟩) (w.alloc (.cells #[.int .u8 x] 5)).drew :=
  convAt x h0 h1 _ _ (by show (w.alloc _).cell? _ = _; rw [World.cell?_alloc_at _ _ _ _ rfl]; rfl)
theorem convAfter (x : Int) (h0 : 0 ≤ x) (h1 : x < 256) {w w1 : World} (hb : Below (w.alloc (.cells #[.int .u8 x] 5)).drew.heap.size (w.alloc (.cells #[.int .u8 x] 5)).drew w1) : (convert 22 9 (.slice (some ⟨w.heap.size, 0, none⟩) 1 1)).run Tryd.prog w1 = .ok (.string ⟨#[UInt8.ofNat x.toNat]⟩) w1 := by
  refine convAt x h0 h1 _ _ ?_
  rw [hb.cell (p := ⟨w.heap.size, 0, none⟩) (show w.heap.size < (w.alloc _).heap.size by simp)]
  show (w.alloc _).cell? _ = _
  rw [World.cell?_alloc_at _ _ _ _ rfl]; rfl
theorem wrapI (x : Int) (h0 : -9223372036854775808 ≤ x) (h1 : x < 9223372036854775808) : IntKind.i64.wrap x = x := by
  simp only [IntKind.wrap, IntKind.bits, IntKind.signed]
  simp
  omega
theorem wrapU (x : Int) (h0 : 0 ≤ x) (h1 : x < 256) : IntKind.u8.wrap x = x := by
  simp only [IntKind.wrap, IntKind.bits, IntKind.signed]
  simp
  omega
theorem after0 {w w1 : World} {o : Obj} (hb : Below w.drew.heap.size w.drew w1) : Below w.heap.size w (w1.alloc o) :=
  ((Below.refl w.heap.size w).drew.trans hb).alloc hb.size _
theorem dec_snoc (n : Nat) (h : ¬ n < 10) : (⟨(Lib.decDigits (n / 10)).toArray⟩ : ByteArray) ++ ⟨#[48 + UInt8.ofNat (n % 10)]⟩ = ⟨(Lib.decDigits n).toArray⟩ := by
  have e : Lib.decDigits n = Lib.decDigits (n / 10) ++ [UInt8.ofNat (48 + n % 10)] := by rw [Lib.decDigits, dif_neg h]
  have e2 : UInt8.ofNat (48 + n % 10) = 48 + UInt8.ofNat (n % 10) := by rw [UInt8.ofNat_add]; rfl
  rw [e, e2]
  apply ByteArray.ext
  simp
set_option maxHeartbeats 1000000 in
set_option maxRecDepth 100000 in
theorem l2Text (n : Nat) (hn : n ≤ 1000000000) : ∀ w : World,
    Calls Tryd.prog 45 #[.int .i64 (n : Int)] w fun e w' => e = .returned (.string ⟨(Lib.decDigits n).toArray⟩) ∧ Below w.heap.size w w' := by
  induction n using Nat.strongRecOn with
  | ind n ih =>
    intro w
    by_cases h10 : n < 10
    · have hcv := fun w => convOne (48 + (n : Int)) (by omega) (by omega) w
      have HD : Hid ((⟨#[UInt8.ofNat (48 + (n : Int)).toNat]⟩ : ByteArray) = ⟨(Lib.decDigits n).toArray⟩) := by
        show _ = _
        rw [Lib.decDigits_one h10, show (48 + (n : Int)).toNat = 48 + n from by omega]
      generalize Lib.decDigits n = D at HD
      clear ih
      go_enter Tryd.func45, Tryd.ntmps45
      go_wp2
      go_ret
      exact ⟨ret_str HD.out, bel1 _ _⟩
    · have hih := ih (n / 10) (by omega) (by omega)
      have hcv := fun w => convOne (48 + (n : Int) % 10) (by omega) (by omega) w
      have HD : Hid ((⟨(Lib.decDigits (n / 10)).toArray⟩ : ByteArray) ++ ⟨#[48 + UInt8.ofNat (n % 10)]⟩ = ⟨(Lib.decDigits n).toArray⟩) := dec_snoc n h10
      generalize Lib.decDigits n = D at HD
      have hlen := dec_len (n / 10) (by omega)
      generalize Lib.decDigits (n / 10) = D' at hih hlen HD
      have e10 : ((n / 10 : Nat) : Int) = (n : Int) / 10 := by omega
      rw [e10] at hih
      have ew : IntKind.i64.wrap ((n : Int) / 10) = (n : Int) / 10 := wrapI _ (by omega) (by omega)
      have hcd := fun w => convDrew (48 + (n : Int) % 10) (by omega) (by omega) w
      have et : (n : Int).tmod 10 = (n : Int) % 10 := Int.tmod_eq_emod_of_nonneg (by omega)
      have em : IntKind.i64.wrap ((n : Int) % 10) = (n : Int) % 10 := wrapI _ (by omega) (by omega)
      have ea : IntKind.i64.wrap (48 + (n : Int) % 10) = 48 + (n : Int) % 10 := wrapI _ (by omega) (by omega)
      have eu : IntKind.u8.wrap (48 + (n : Int) % 10) = 48 + (n : Int) % 10 := wrapU _ (by omega) (by omega)
      clear ih e10
      go_enter Tryd.func45, Tryd.ntmps45
      go_wp2_with fail
      go_region_with (go_at_call 45; refine (hih _).mono ?_; rintro e w1 ⟨rfl, hb1⟩; first | (have hcw := convAfter (48 + (n : Int) % 10) (by omega) (by omega) hb1) | skip)
      all_goals
        go_wp2
        go_ret
        first
          | exact ⟨ret_str HD.out, after1 hb1⟩
          | exact ⟨ret_str HD.out, after0 hb1⟩
end Go.Proofs.YtekjnfkmjmmcmabDoor.Wk
