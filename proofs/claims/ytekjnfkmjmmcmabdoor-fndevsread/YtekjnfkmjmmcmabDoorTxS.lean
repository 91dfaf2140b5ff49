/- What DevsText of the specification comes to. -/
import Derived.Test.YtekjnfkmjmmcmabDoorTextS
import Derived.Test.YtekjnfkmjmmcmabDoorTxM
import Derived.Test.YtekjnfkmjmmcmabDoorDvS
namespace Go.Proofs.YtekjnfkmjmmcmabDoor.Wk
set_option linter.unusedVariables false
open Go.ChangeShapes Go.WideShapes Go.ChangeAt Go.RowKit

theorem catL (a b : List UInt8) : (⟨a.toArray⟩ : ByteArray) ++ ⟨b.toArray⟩ = ⟨(a ++ b).toArray⟩ := by
  apply ByteArray.ext
  simp
theorem addL (a b : List UInt8) (h : a.length + b.length ≤ 1000) : binOp .add 9 (.string ⟨a.toArray⟩) (.string ⟨b.toArray⟩) = pure (.string ⟨(a ++ b).toArray⟩) := by
  rw [← catL]
  exact addS _ _ (by rw [szL, szL]; exact h)
/-- a device's text behind another text, a piece at a time -/
theorem wordAdd (s : List UInt8) (i z n : Nat) (hs : s.length ≤ 900) (hi : i ≤ 20) (hz : z ≤ 20) (hn : n ≤ 1000) : ∃ A B C E F : ByteArray,
    binOp .add 9 (.string ⟨s.toArray⟩) (.string ⟨(Lib.decDigits i).toArray⟩) = pure (.string A) ∧ binOp .add 9 (.string A) (.string ⟨#[58]⟩) = pure (.string B) ∧
    binOp .add 9 (.string B) (.string ⟨(Lib.decDigits z).toArray⟩) = pure (.string C) ∧ binOp .add 9 (.string C) (.string ⟨#[58]⟩) = pure (.string E) ∧
    binOp .add 9 (.string E) (.string ⟨(Lib.decDigits n).toArray⟩) = pure (.string F) ∧ F = ⟨(s ++ Dv.wtext ((i : Int), (z : Int), (n : Int))).toArray⟩ := by
  have l1 := dec_len i (by omega)
  have l2 := dec_len z (by omega)
  have l3 := dec_len n (by omega)
  refine ⟨_, _, _, _, _, addL _ _ (by omega), addL _ [58] (by simp; omega), addL _ _ (by simp; omega), addL _ [58] (by simp; omega), addL _ _ (by simp; omega), ?_⟩
  simp [Dv.wtext]

set_option maxHeartbeats 2000000 in
set_option maxRecDepth 100000 in
theorem specDText (a : Option Addr) (cap : Nat) (l : List Sm.St) (w : World) (hk : Dv.devs l = true) (hr : RdS w a l) :
    Calls Tryd.prog 34 #[.slice a l.length cap] w fun e w' => e = .returned (.string ⟨(Dv.dtext l).toArray⟩) ∧ Below w.heap.size w w' := by
  obtain ⟨⟨h1, h12⟩, hdev⟩ := Dv.devs_dev hk
  have hwl : ∀ d ∈ l, (Dv.wtext d).length ≤ 65 := fun d hd => Dv.wtext_len (hdev d hd)
  have cD := specDevs a cap l w (by omega) hr
  rw [hk] at cD
  clear hk
  have HV : Hid (∀ d ∈ l, Dv.dev d.1 d.2.1 d.2.2 = true) := hdev
  have HW : Hid (∀ d ∈ l, (Dv.wtext d).length ≤ 65) := hwl
  clear hdev hwl
  go_enter Tryd.func34, Tryd.ntmps34
  go_wp2_with fail
  refine cD.mono ?_
  rintro e w1 ⟨rfl, hb1⟩
  clear cD
  go_wp2
  go_loopw [3, 4] (fun v i wr => ∃ (k : Nat) (s : List UInt8), k ≤ l.length ∧ i = .int .i64 k ∧ v = .string ⟨s.toArray⟩ ∧ Hid (s = Dv.dtext (l.take k)) ∧ s.length ≤ 800 ∧ Below w.heap.size w wr) (fun _ i _ => l.length - (intOf i).toNat)
  case atStart => exact ⟨0, [], Nat.zero_le _, rfl, rfl, by show [] = _; simp [Dv.dtext, Lib.join_nil], by simp, hb1⟩
  case round =>
    obtain ⟨k, s, hk, rfl, rfl, HS, hsl, hb⟩ := hrel
    by_cases hlt : k < l.length
    · obtain ⟨b, off, rfl, p⟩ := (hr.below hb) k hlt
      have HL : Hid ((Dv.dtext (l.take (k + 1))).length ≤ 800) := by
        have := Dv.dtext_len (l.take (k + 1)) (fun d hd => HW.out d (List.mem_of_mem_take hd))
        rw [List.length_take] at this
        show _ ≤ _
        omega
      have HN : Hid (Dv.dtext (l.take (k + 1)) = (if k = 0 then [] else s ++ [32]) ++ Dv.wtext l[k]) := by
        show _ = _
        rw [List.take_succ_eq_append_getElem hlt]
        split
        · next e => subst e; rw [List.take_zero, List.nil_append, Dv.dtext_one, List.nil_append]
        · next e => rw [Dv.dtext_snoc (Dv.take_ne hlt e), HS.out]
      obtain ⟨i, z, n, e1, e2, e3, hi, hz, hn⟩ := Dv.dev_nat (HV.out _ (List.getElem_mem hlt))
      obtain ⟨u, hu⟩ : ∃ u, l[k] = u := ⟨_, rfl⟩
      rw [hu] at p HN e1 e2 e3
      obtain ⟨i', z', n'⟩ := u
      dsimp only at e1 e2 e3
      subst e1 e2 e3
      have c1 := l2Text i (by omega)
      have c2 := l2Text z (by omega)
      have c3 := l2Text n (by omega)
      have hkI : (0 : Int) ≤ (k : Int) := by omega
      have hkL : (k : Int) < (l.length : Int) := by omega
      obtain ⟨p0, p1, p2⟩ := (show _ from p)
      dsimp only at p0 p1 p2
      have HS0 : Hid (k = 0 → s = Dv.dtext (l.take 0)) := fun e => by rw [HS.out, e]
      clear p hu HS HV
      by_cases h0 : k = 0
      · subst h0
        rw [if_pos rfl, List.nil_append] at HN
        rw [Nat.zero_mul, Nat.add_zero] at p0 p1 p2
        obtain rfl : s = [] := by rw [HS0.out rfl]; simp [Dv.dtext, Lib.join_nil]
        obtain ⟨A, B, C, E, F, s1, s2, s3, s4, s5, hF⟩ := wordAdd [] i z n (by simp) hi hz hn
        rw [List.nil_append, ← HN.out] at hF
        obtain ⟨T, hT⟩ : ∃ T, T = Dv.dtext (l.take (0 + 1)) := ⟨_, rfl⟩
        rw [← hT] at hF HL
        have HT : Hid (T = Dv.dtext (l.take (0 + 1))) := hT
        subst hF
        clear hT HN
        generalize Lib.decDigits i = D1 at s1 c1
        generalize Lib.decDigits z = D2 at s3 c2
        generalize Lib.decDigits n = D3 at s5 c3
        go_upto_region 9 with fail
        go_region_held3 (fun wy => wy.cell? ⟨b, off, none⟩ = some (.int .i64 (i : Int)) ∧ wy.cell? ⟨b, off + 1, none⟩ = some (.int .i64 (z : Int)) ∧ wy.cell? ⟨b, off + 2, none⟩ = some (.int .i64 (n : Int)))
          (first | exact ⟨p0, p1, p2⟩ | exact keep3 ‹_› ‹_› | go_keep)
          (first | (go_at_call_of 45 (Value.int .i64 (i : Int)); refine (c1 _).mono ?_; rintro e w2 ⟨rfl, hb2⟩) | (go_at_call_of 45 (Value.int .i64 (z : Int)); refine (c2 _).mono ?_; rintro e w3 ⟨rfl, hb3⟩) | (go_at_call_of 45 (Value.int .i64 (n : Int)); refine (c3 _).mono ?_; rintro e w4 ⟨rfl, hb4⟩))
        go_wp2
        go_roundw
        case rel => exact ⟨0 + 1, T, by omega, by go_num, rfl, HT, HL.out, behind (behind (behind hb.drew hb2) hb3) hb4⟩
        case measure => simp [intOf]; omega
      · rw [if_neg h0] at HN
        have s0 := addL s [32] (by simp; omega)
        obtain ⟨A, B, C, E, F, s1, s2, s3, s4, s5, hF⟩ := wordAdd (s ++ [32]) i z n (by simp; omega) hi hz hn
        rw [← HN.out] at hF
        obtain ⟨T, hT⟩ : ∃ T, T = Dv.dtext (l.take (k + 1)) := ⟨_, rfl⟩
        rw [← hT] at hF HL
        have HT : Hid (T = Dv.dtext (l.take (k + 1))) := hT
        subst hF
        clear hT HN
        generalize s ++ [32] = s' at s0 s1
        generalize Lib.decDigits i = D1 at s1 c1
        generalize Lib.decDigits z = D2 at s3 c2
        generalize Lib.decDigits n = D3 at s5 c3
        go_upto_region 9 with fail
        go_region_held3 (fun wy => wy.cell? ⟨b, off + k * 3, none⟩ = some (.int .i64 (i : Int)) ∧ wy.cell? ⟨b, off + k * 3 + 1, none⟩ = some (.int .i64 (z : Int)) ∧ wy.cell? ⟨b, off + k * 3 + 2, none⟩ = some (.int .i64 (n : Int)))
          (first | exact ⟨p0, p1, p2⟩ | exact keep3 ‹_› ‹_› | go_keep)
          (first | (go_at_call_of 45 (Value.int .i64 (i : Int)); refine (c1 _).mono ?_; rintro e w2 ⟨rfl, hb2⟩) | (go_at_call_of 45 (Value.int .i64 (z : Int)); refine (c2 _).mono ?_; rintro e w3 ⟨rfl, hb3⟩) | (go_at_call_of 45 (Value.int .i64 (n : Int)); refine (c3 _).mono ?_; rintro e w4 ⟨rfl, hb4⟩))
        go_wp2
        go_roundw
        case rel => exact ⟨k + 1, T, by omega, by go_num, rfl, HT, HL.out, behind (behind (behind hb.drew hb2) hb3) hb4⟩
        case measure => simp [intOf]; omega
    · have hkl : k = l.length := by omega
      have HE : Hid ((⟨s.toArray⟩ : ByteArray) = ⟨(Dv.dtext l).toArray⟩) := by
        show _ = _
        rw [HS.out, hkl, List.take_length]
      clear hkl HS
      go_wp2
      go_ret
      exact ⟨ret_str HE.out, hb⟩

set_option maxHeartbeats 1000000 in
set_option maxRecDepth 100000 in
theorem specDTextNo (a : Option Addr) (cap : Nat) (l : List Sm.St) (w : World) (hl : l.length ≤ 1048576) (hk : Dv.devs l = false) (hr : RdS w a l) :
    Calls Tryd.prog 34 #[.slice a l.length cap] w fun e w' => e = .returned (.string ⟨#[]⟩) ∧ Below w.heap.size w w' := by
  have cD := specDevs a cap l w (by omega) hr
  rw [hk] at cD
  clear hk
  go_enter Tryd.func34, Tryd.ntmps34
  go_wp2_with fail
  refine cD.mono ?_
  rintro e w1 ⟨rfl, hb1⟩
  go_wp2
  go_ret
  exact ⟨rfl, hb1⟩
end Go.Proofs.YtekjnfkmjmmcmabDoor.Wk
