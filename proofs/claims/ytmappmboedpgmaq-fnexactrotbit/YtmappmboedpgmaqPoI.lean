/- What placeOf of the program comes to: the place of a name, or -1. -/
import Derived.Test.YtmappmboedpgmaqDkS
import Derived.Test.YtmappmboedpgmaqDnS
import Derived.Shelf.Abstract
namespace Go.Proofs.Ytmappmboedpgmaq.Wk
set_option linter.unusedVariables false
open Go.ChangeShapes Go.WideShapes Go.ChangeAt Go.RowKit

set_option maxHeartbeats 1000000 in
set_option maxRecDepth 100000 in
theorem placeFn (B : Nat) (s n : ByteArray) (u : Value) (w : World) (hB : w.cell? ⟨B, 0, none⟩ = some (.string s)) :
    Calls Try.prog 56 #[.agg #[.string n, u], .pointer (some ⟨B, 0, none⟩)] w fun e w' => e = .returned (.bool (decide (n = s))) ∧ Below w.heap.size w w' := by
  have b0 := bel1 w (.cells #[.string n, u] 57)
  have q0 : (w.alloc (.cells #[.string n, u] 57)).cell? ⟨w.heap.size, 0, none⟩ = some (.string n) := by rw [World.cell?_alloc_at _ _ _ _ rfl]; rfl
  have hB' := cellNd hB b0
  by_cases he : n = s
  · rw [he] at q0 b0 hB' ⊢
    go_enter Try.func56, Try.ntmps56
    go_wp2
    go_ret
    exact ⟨by simp, b0⟩
  · have hne := bytes_ne he
    have hd : decide (n = s) = false := by simpa using he
    rw [hd]
    clear hd he
    go_enter Try.func56, Try.ntmps56
    go_wp2
    go_ret
    exact ⟨by simp [Array.getD], b0⟩

set_option maxHeartbeats 600000 in
set_option maxRecDepth 100000 in
theorem idxNamed (g : Nat) (lb : Array Value) (eg : ∀ args w, (callFunc g args).run Try.prog w = .ok (.enter g args) w) (s : ByteArray) (a : Option Addr) (ca : Nat) (l : List Nd) (w : World) (hl : l.length ≤ 1048576) (hr : RdNd w a l)
    (hf : ∀ (W : World) (n : ByteArray) (u : Value), Below w.heap.size w W → Calls Try.prog g (#[.agg #[.string n, u]] ++ lb) W fun e w' => e = .returned (.bool (decide (n = s))) ∧ Below W.heap.size W w') :
    Calls Try.prog 55 #[.slice a l.length ca, .func (.func g) #[] lb] w fun e w' => e = .returned (.int .i64 (atN (ndAt l s))) ∧ Below w.heap.size w w' := by
  obtain ⟨K, HK⟩ : ∃ K, Hid (atN (ndAt l s) = K) := ⟨_, rfl⟩
  rw [HK.out]
  have HF : Hid (∀ (W : World) (n : ByteArray) (u : Value), Below w.heap.size w W → Calls Try.prog g (#[.agg #[.string n, u]] ++ lb) W fun e w' => e = .returned (.bool (decide (n = s))) ∧ Below W.heap.size W w') := hf
  clear hf
  go_enter Try.func55, Try.ntmps55
  go_wp2
  go_loopw [8] (fun i wr => ∃ k : Nat, k ≤ l.length ∧ i = .int .i64 k ∧ Hid (∀ j (hj : j < k) (hjl : j < l.length), ¬ l[j].1 = s) ∧ Below w.heap.size w wr) (fun i _ => l.length - (intOf i).toNat)
  case atStart => exact ⟨0, Nat.zero_le _, rfl, fun j hj => by omega, Below.refl _ _⟩
  case round =>
    obtain ⟨k, hk, rfl, HA, hb⟩ := hrel
    by_cases hlt : k < l.length
    · obtain ⟨b, off, ai, ci, rfl, h1, h2, -, -, -⟩ := (hr.below hb) k hlt
      have hcall := HF.out wr l[k].1 (.slice ai l[k].2.length ci) hb
      by_cases he : l[k].1 = s
      · have HL : Hid (ndAt l s = some k) := ndAt_step l s k hlt (fun j hj => HA.out j hj (by omega)) he
        rw [decide_eq_true he] at hcall
        generalize l[k].1 = n at *
        generalize l[k].2.length = m at *
        clear he
        go_wp2_with (go_at_fn g; refine hcall.mono ?_; rintro e w4 ⟨rfl, hb4⟩)
        go_ret
        exact ⟨by rw [← HK.out, HL.out]; rfl, behind hb hb4⟩
      · have HN : Hid (∀ j (hj : j < k + 1) (hjl : j < l.length), ¬ l[j].1 = s) := by
          intro j hj hjl
          by_cases e : j = k
          · subst e; exact he
          · exact HA.out j (by omega) hjl
        rw [decide_eq_false he] at hcall
        generalize l[k].1 = n at *
        generalize l[k].2.length = m at *
        clear he
        go_wp2_with (go_at_fn g; refine hcall.mono ?_; rintro e w4 ⟨rfl, hb4⟩)
        go_roundw
        case rel => exact ⟨k + 1, by omega, by go_num, HN, behind hb hb4⟩
        case measure => simp [intOf]; omega
    · have HL : Hid (ndAt l s = none) := ndAt_none l s (fun j hj => HA.out j (by omega) hj)
      go_wp2
      go_ret
      exact ⟨by rw [← HK.out, HL.out]; rfl, hb⟩

set_option maxHeartbeats 600000 in
set_option maxRecDepth 100000 in
theorem implPlace (a : Option Addr) (ca : Nat) (l : List Nd) (s : ByteArray) (w : World) (hl : l.length ≤ 1048576) (hr : RdNd w a l) :
    Calls Try.prog 30 #[.slice a l.length ca, .string s] w fun e w' => e = .returned (.int .i64 (atN (ndAt l s))) ∧ Below w.heap.size w w' := by
  have b0 := bel1 w (.cells #[.string s] 9)
  have q0 : (w.alloc (.cells #[.string s] 9)).cell? ⟨w.heap.size, 0, none⟩ = some (.string s) := by rw [World.cell?_alloc_at _ _ _ _ rfl]; rfl
  have cI := idxNamed 56 #[.pointer (some ⟨w.heap.size, 0, none⟩)] (enters_of Try.func56 (by kernel_rfl) rfl) s a ca l (w.alloc (.cells #[.string s] 9)) hl (hr.below b0)
    (fun W n u hb => placeFn w.heap.size s n u W (cellNd q0 hb))
  go_enter Try.func30, Try.ntmps30
  go_wp2_with fail
  generalize w.alloc (.cells #[.string s] 9) = wA at *
  go_at_call 55
  refine cI.mono ?_
  rintro e w2 ⟨rfl, hb2⟩
  go_wp2
  go_ret
  exact ⟨rfl, behind b0 hb2⟩
end Go.Proofs.Ytmappmboedpgmaq.Wk
