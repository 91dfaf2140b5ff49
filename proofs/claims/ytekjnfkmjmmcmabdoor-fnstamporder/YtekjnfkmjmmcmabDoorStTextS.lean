/- What StampText of the specification comes to. -/
import Derived.Test.YtekjnfkmjmmcmabDoorTextS
import Derived.Test.YtekjnfkmjmmcmabDoorOkS
namespace Go.Proofs.YtekjnfkmjmmcmabDoor.Wk
set_option linter.unusedVariables false
open Go.ChangeShapes Go.WideShapes Go.ChangeAt Go.RowKit

set_option maxHeartbeats 2000000 in
set_option maxRecDepth 100000 in
theorem specText (t q n : Nat) (hk : Sm.ok t q n = true) (w : World) :
    Calls Tryd.prog 30 #[.agg #[.int .i64 t, .int .i64 q, .int .i64 n]] w fun e w' => e = .returned (.string (dotted t q n)) ∧ Below w.heap.size w w' := by
  obtain ⟨⟨a, b⟩, ⟨c, d⟩, e, f⟩ := Sm.ok_true hk
  have HD : Hid ((((((⟨(Lib.decDigits t).toArray⟩ : ByteArray) ++ ⟨#[46]⟩) ++ ⟨(Lib.decDigits q).toArray⟩) ++ ⟨#[46]⟩) ++ ⟨(Lib.decDigits n).toArray⟩) = dotted t q n) := rfl
  have l1 := dec_len t (by omega)
  have l2 := dec_len q (by omega)
  have l3 := dec_len n (by omega)
  have c1 := l2Text t (by omega)
  have c2 := l2Text q (by omega)
  have c3 := l2Text n (by omega)
  generalize dotted t q n = D at HD
  generalize Lib.decDigits t = T at HD l1 c1
  generalize Lib.decDigits q = Q at HD l2 c2
  generalize Lib.decDigits n = N at HD l3 c3
  obtain ⟨A, hA⟩ : ∃ A : ByteArray, (⟨T.toArray⟩ : ByteArray) ++ ⟨#[46]⟩ = A := ⟨_, rfl⟩
  obtain ⟨B, hB⟩ : ∃ B : ByteArray, A ++ ⟨Q.toArray⟩ = B := ⟨_, rfl⟩
  obtain ⟨C, hC⟩ : ∃ C : ByteArray, B ++ ⟨#[46]⟩ = C := ⟨_, rfl⟩
  obtain ⟨E, hE⟩ : ∃ E : ByteArray, C ++ ⟨N.toArray⟩ = E := ⟨_, rfl⟩
  have HE : Hid (E = D) := by show E = D; rw [← hE, ← hC, ← hB, ← hA]; exact HD.out
  have zA : A.size ≤ 22 := by rw [← hA, ByteArray.size_append, szL T, sz1]; omega
  have zB : B.size ≤ 43 := by rw [← hB, ByteArray.size_append, szL Q]; omega
  have zC : C.size ≤ 44 := by rw [← hC, ByteArray.size_append, sz1]; omega
  have s1 := addS ⟨T.toArray⟩ ⟨#[46]⟩ (by rw [szL T, sz1]; omega)
  have s2 := addS A ⟨Q.toArray⟩ (by rw [szL Q]; omega)
  have s3 := addS B ⟨#[46]⟩ (by rw [sz1]; omega)
  have s4 := addS C ⟨N.toArray⟩ (by rw [szL N]; omega)
  rw [hA] at s1
  rw [hB] at s2
  rw [hC] at s3
  rw [hE] at s4
  clear hA hB hC hE HD zA zB zC
  have x0 := boxNew w t q n 25
  go_enter Tryd.func30, Tryd.ntmps30
  go_wp2_with fail
  refine (specOk t q n _).mono ?_
  rw [hk]
  clear hk
  rintro e w1 ⟨rfl, hb1⟩
  have hB1 := behind (bel1 _ _) hb1
  obtain ⟨p0, p1, p2⟩ := x0.below hb1
  go_upto_region 3 with fail
  go_region_held3 (fun wy => wy.cell? ⟨w.heap.size, 0, none⟩ = some (.int .i64 (t : Int)) ∧ wy.cell? ⟨w.heap.size, 1, none⟩ = some (.int .i64 (q : Int)) ∧ wy.cell? ⟨w.heap.size, 2, none⟩ = some (.int .i64 (n : Int)))
    (first | exact ⟨p0, p1, p2⟩ | exact keep3 ‹_› ‹_› | go_keep)
    (first | (go_at_call_of 45 (Value.int .i64 (t : Int)); refine (c1 _).mono ?_; rintro e w2 ⟨rfl, hb2⟩) | (go_at_call_of 45 (Value.int .i64 (q : Int)); refine (c2 _).mono ?_; rintro e w3 ⟨rfl, hb3⟩) | (go_at_call_of 45 (Value.int .i64 (n : Int)); refine (c3 _).mono ?_; rintro e w4 ⟨rfl, hb4⟩))
  all_goals
    go_wp2
    go_ret
    exact ⟨ret_str HE.out, behind (behind (behind hB1.drew hb2) hb3) hb4⟩

set_option maxHeartbeats 1000000 in
set_option maxRecDepth 100000 in
theorem specTextNo (t q n : Int) (hk : Sm.ok t q n = false) (w : World) :
    Calls Tryd.prog 30 #[.agg #[.int .i64 t, .int .i64 q, .int .i64 n]] w fun e w' => e = .returned (.string ⟨#[]⟩) ∧ Below w.heap.size w w' := by
  go_enter Tryd.func30, Tryd.ntmps30
  go_wp2_with fail
  refine (specOk t q n _).mono ?_
  rw [hk]
  rintro e w1 ⟨rfl, hb1⟩
  go_wp2
  go_ret
  exact ⟨rfl, behind (bel1 _ _) hb1⟩
end Go.Proofs.YtekjnfkmjmmcmabDoor.Wk
