/- What l9At of the specification comes to. -/
import Derived.Test.YtmappmboedpgmaqNdB
import Derived.Test.YtmappmboedpgmaqNmS
import Derived.Lib.SlicesS
namespace Go.Proofs.Ytmappmboedpgmaq.Wk
set_option linter.unusedVariables false
open Go.ChangeShapes Go.WideShapes Go.ChangeAt Go.RowKit

/-- the place as a number -/
def atN : Option Nat → Int
  | some k => k
  | none => -1
theorem ndAt_step (l : List Nd) (s : ByteArray) (k : Nat) (h : k < l.length) (hn : ∀ j (hj : j < k), ¬ l[j].1 = s) (he : l[k].1 = s) : ndAt l s = some k := by
  unfold ndAt
  rw [List.findIdx?_eq_some_iff_getElem]
  exact ⟨h, by simpa using he, fun j hj => by simpa using hn j hj⟩
theorem ndAt_none (l : List Nd) (s : ByteArray) (hn : ∀ j (hj : j < l.length), ¬ l[j].1 = s) : ndAt l s = none := by
  unfold ndAt
  rw [List.findIdx?_eq_none_iff]
  intro x hx
  obtain ⟨j, hj, rfl⟩ := List.mem_iff_getElem.1 hx
  simpa using hn j hj

theorem bytes_ne {a b : ByteArray} (h : ¬ a = b) : (a.toList == b.toList) = false := (Lib.bytes_beq_false_iff a b).2 h
set_option maxHeartbeats 1000000 in
set_option maxRecDepth 100000 in
theorem specAt (a : Option Addr) (cap : Nat) (l : List Nd) (s : ByteArray) (w : World) (hl : l.length ≤ 1048576) (hr : RdNd w a l) :
    Calls Try.prog 25 #[.slice a l.length cap, .string s] w fun e w' => e = .returned (.int .i64 (atN (ndAt l s))) ∧ ∃ n, w' = w.drewN n := by
  obtain ⟨R, HR⟩ : ∃ R, Hid (atN (ndAt l s) = R) := ⟨_, rfl⟩
  rw [HR.out]
  go_enter Try.func25, Try.ntmps25
  go_wp2
  go_loopw [5] (fun i wr => ∃ k : Nat, k ≤ l.length ∧ i = .int .i64 k ∧ Hid (∀ j (hj : j < k) (hjl : j < l.length), ¬ l[j].1 = s) ∧ ∃ n, wr = w.drewN n) (fun i _ => l.length - (intOf i).toNat)
  case atStart => exact ⟨0, Nat.zero_le _, rfl, fun j hj => by omega, 0, rfl⟩
  case round =>
    obtain ⟨k, hk, rfl, HN, n, rfl⟩ := hrel
    by_cases hlt : k < l.length
    · obtain ⟨b, off, ai, ci, rfl, h1, -, -, -, -⟩ := hr k hlt
      by_cases he : l[k].1 = s
      · have HA : Hid (ndAt l s = some k) := ndAt_step l s k hlt (fun j hj => HN.out j hj (by omega)) he
        rw [he] at h1
        clear he
        go_wp2
        go_ret
        exact ⟨by rw [← HR.out, HA.out]; rfl, n, rfl⟩
      · have HA : Hid (∀ j (hj : j < k + 1) (hjl : j < l.length), ¬ l[j].1 = s) := by
          intro j hj hjl
          by_cases e : j = k
          · subst e; exact he
          · exact HN.out j (by omega) hjl
        have hbe := bytes_ne he
        generalize l[k].1 = x at h1 he hbe
        go_wp2
        go_roundw
        case rel => exact ⟨k + 1, by omega, by go_num, HA, n, rfl⟩
        case measure => simp [intOf]; omega
    · have HA : Hid (ndAt l s = none) := ndAt_none l s (fun j hj => HN.out j (by omega) hj)
      go_wp2
      go_ret
      exact ⟨by rw [← HR.out, HA.out]; rfl, n, rfl⟩

/-- the row at k is as a row of a disk is to be -/
def GoodAt (l : List Nd) (k : Nat) : Prop :=
  ∃ h : k < l.length, Nm.name l[k].1.data.toList = true ∧ l[k].2.length ≤ 400 ∧ (k = 0 ∨ ∃ h' : k - 1 < l.length, Op.bytesLess l[k - 1].1.toList l[k].1.toList = true)
open Classical in
noncomputable def listOk (l : List Nd) : Bool := decide ((∀ k, k < l.length → GoodAt l k) ∧ l.length ≤ 60)
theorem listOk_bad {l : List Nd} {k : Nat} (h : k < l.length) (hb : ¬ GoodAt l k) : listOk l = false := by
  unfold listOk; simp only [decide_eq_false_iff_not]; exact fun ⟨a, _⟩ => hb (a k h)
theorem listOk_end {l : List Nd} (h : ∀ k, k < l.length → GoodAt l k) : listOk l = decide (l.length ≤ 60) := by
  unfold listOk; exact decide_eq_decide.2 ⟨fun ⟨_, b⟩ => b, fun b => ⟨h, b⟩⟩
theorem GoodAt.no_name {l : List Nd} {k : Nat} (h : k < l.length) (hn : Nm.name l[k].1.data.toList = false) : ¬ GoodAt l k := by
  rintro ⟨_, a, _⟩; rw [hn] at a; cases a
theorem GoodAt.no_len {l : List Nd} {k : Nat} (h : k < l.length) (hn : ¬ l[k].2.length ≤ 400) : ¬ GoodAt l k := by
  rintro ⟨_, _, a, _⟩; exact hn a
theorem GoodAt.no_less {l : List Nd} {k : Nat} (h : k < l.length) (h0 : ¬ k = 0) (h' : k - 1 < l.length) (hn : Op.bytesLess l[k - 1].1.toList l[k].1.toList = false) : ¬ GoodAt l k := by
  rintro ⟨_, _, _, a | ⟨_, a⟩⟩
  · exact h0 a
  · rw [hn] at a; cases a
set_option maxHeartbeats 2000000 in
set_option maxRecDepth 100000 in
theorem specList (a : Option Addr) (cap : Nat) (l : List Nd) (w : World) (hl : l.length ≤ 1048576) (hsz : ∀ x ∈ l, x.1.size ≤ 1048576 ∧ x.2.length ≤ 1048576) (hr : RdNd w a l) :
    Calls Try.prog 63 #[.slice a l.length cap] w fun e w' => e = .returned (.bool (listOk l)) ∧ ∃ n, w' = w.drewN n := by
  obtain ⟨R, HR⟩ : ∃ R, Hid (listOk l = R) := ⟨_, rfl⟩
  rw [HR.out]
  go_enter Try.func63, Try.ntmps63
  go_wp2
  go_loopw [3] (fun i wr => ∃ k : Nat, k ≤ l.length ∧ i = .int .i64 k ∧ Hid (∀ j, j < k → GoodAt l j) ∧ ∃ n, wr = w.drewN n) (fun i _ => l.length - (intOf i).toNat)
  case atStart => exact ⟨0, Nat.zero_le _, rfl, fun j hj => by omega, 0, rfl⟩
  case round =>
    obtain ⟨k, hk, rfl, HG, n, hwr⟩ := hrel
    have hr := (show RdNd wr a l from by rw [hwr]; exact hr.drewN n)
    have HW : Hid (wr = w.drewN n) := hwr
    have HD : ∀ m, Hid (∃ n', wr.drewN m = w.drewN n') := fun m => ⟨n + m, by rw [hwr]; simp [World.drewN_drewN]⟩
    clear hwr
    by_cases hlt : k < l.length
    · obtain ⟨b, off, ai, ci, rfl, h1, h2, -, -, -⟩ := hr k hlt
      have hx := hsz l[k] (List.getElem_mem hlt)
      have cN := fun w => specName l[k].1 w hx.1
      cases hN : Nm.name l[k].1.data.toList with
      | false =>
        rw [hN] at cN
        have HL : Hid (listOk l = false) := listOk_bad hlt (GoodAt.no_name hlt hN)
        clear hN
        generalize l[k].1 = x at h1 cN
        go_wp2_with fail
        go_quiet (first | (go_at_call 52; exact Calls.quiet_of_same (cN _)) | fail)
        go_wp2
        go_ret
        exact ⟨by rw [← HR.out, HL.out]; rfl, (HD _).out⟩
      | true =>
        rw [hN] at cN
        by_cases h4 : l[k].2.length ≤ 400
        · have h4' : decide ((400 : Int) < (l[k].2.length : Int)) = false := by simp; omega
          have h4n : ¬ 400 < l[k].2.length := by omega
          by_cases h0 : k = 0
          · have HA : Hid (∀ j, j < k + 1 → GoodAt l j) := fun j hj => by
              obtain rfl : j = k := by omega
              exact ⟨hlt, hN, h4, .inl h0⟩
            clear hN h4
            have h0' : decide ((0 : Int) < (k : Int)) = false := by simp; omega
            have h0n : ¬ 0 < k := by omega
            have h0d : decide (0 < k) = false := by simp; omega
            generalize l[k].1 = x at h1 cN
            clear h0
            go_wp2_with fail
            go_quiet (first | (go_at_call 52; exact Calls.quiet_of_same (cN _)) | fail)
            go_wp2
            go_roundw
            case rel => exact ⟨k + 1, by omega, by go_num, HA, (HD _).out⟩
            case measure => simp [intOf]; omega
          · have h0' : decide ((0 : Int) < (k : Int)) = true := by simp; omega
            have h0n : 0 < k := by omega
            have h0d : decide (0 < k) = true := by simp; omega
            obtain ⟨b', off', ai', ci', e', g1, -, -, -, -⟩ := hr (k - 1) (by omega)
            cases e'
            have hk1 : (k : Int) - 1 = ((k - 1 : Nat) : Int) := by omega
            cases hb : Op.bytesLess l[k - 1].1.toList l[k].1.toList with
            | false =>
              have HL : Hid (listOk l = false) := listOk_bad hlt (GoodAt.no_less hlt h0 (by omega) hb)
              clear hN h4
              generalize l[k].1 = x at h1 cN hb
              generalize l[k - 1].1 = y at g1 hb
              go_wp2_with fail
              go_quiet (first | (go_at_call 52; exact Calls.quiet_of_same (cN _)) | fail)
              go_wp2
              go_ret
              exact ⟨by rw [← HR.out, HL.out]; rfl, (HD _).out⟩
            | true =>
              have HA : Hid (∀ j, j < k + 1 → GoodAt l j) := fun j hj => by
                by_cases e : j = k
                · subst e; exact ⟨hlt, hN, h4, .inr ⟨by omega, hb⟩⟩
                · exact HG.out j (by omega)
              clear hN h4
              generalize l[k].1 = x at h1 cN hb
              generalize l[k - 1].1 = y at g1 hb
              go_wp2_with fail
              go_quiet (first | (go_at_call 52; exact Calls.quiet_of_same (cN _)) | fail)
              go_wp2
              go_roundw
              case rel => exact ⟨k + 1, by omega, by go_num, HA, (HD _).out⟩
              case measure => simp [intOf]; omega
        · have HL : Hid (listOk l = false) := listOk_bad hlt (GoodAt.no_len hlt h4)
          have h4' : decide ((400 : Int) < (l[k].2.length : Int)) = true := by simp; omega
          have h4n : 400 < l[k].2.length := by omega
          clear hN h4
          generalize l[k].1 = x at h1 cN
          go_wp2_with fail
          go_quiet (first | (go_at_call 52; exact Calls.quiet_of_same (cN _)) | fail)
          go_wp2
          go_ret
          exact ⟨by rw [← HR.out, HL.out]; rfl, (HD _).out⟩
    · have HL : Hid (listOk l = decide (l.length ≤ 60)) := listOk_end (fun j hj => HG.out j (by omega))
      have hwr := HW.out
      go_wp2
      go_ret
      exact ⟨by rw [← HR.out, HL.out]; simp [Array.getD]; try omega, n, rfl⟩

/-- a disk's two lists in a box -/
def Dbox (w : World) (b : Nat) (v1 v2 : Value) : Prop := w.cell? ⟨b, 0, none⟩ = some v1 ∧ w.cell? ⟨b, 1, none⟩ = some v2
theorem dboxNew (w : World) (v1 v2 : Value) (T : TypeId) : Dbox (w.alloc (.cells #[v1, v2] T)) w.heap.size v1 v2 :=
  ⟨by rw [World.cell?_alloc_at _ _ _ _ rfl]; rfl, by rw [World.cell?_alloc_at _ _ _ _ rfl]; rfl⟩
set_option maxHeartbeats 2000000 in
set_option maxRecDepth 100000 in
/-- what DiskOk of the specification comes to: two calls under a guard, which only read -/
theorem specDiskOk (a1 a2 : Option Addr) (c1 c2 : Nat) (l1 l2 : List Nd) (w : World) (h1 : l1.length ≤ 1048576) (h2 : l2.length ≤ 1048576) (z1 : ∀ x ∈ l1, x.1.size ≤ 1048576 ∧ x.2.length ≤ 1048576) (z2 : ∀ x ∈ l2, x.1.size ≤ 1048576 ∧ x.2.length ≤ 1048576) (r1 : RdNd w a1 l1) (r2 : RdNd w a2 l2) :
    Calls Try.prog 42 #[.agg #[.slice a1 l1.length c1, .slice a2 l2.length c2]] w fun e w' => e = .returned (.bool (listOk l1 && listOk l2)) ∧ Below w.heap.size w w' := by
  have b0 := bel1 w (.cells #[.slice a1 l1.length c1, .slice a2 l2.length c2] 28)
  have HD : ∀ m, Hid (Below w.heap.size w ((w.alloc (.cells #[.slice a1 l1.length c1, .slice a2 l2.length c2] 28)).drewN m)) := fun m => ⟨b0.os, b0.tape, b0.output, b0.size, b0.block⟩
  obtain ⟨s0, s1⟩ := dboxNew w (.slice a1 l1.length c1) (.slice a2 l2.length c2) 28
  have d1 := fun n => specList a1 c1 l1 ((w.alloc (.cells #[.slice a1 l1.length c1, .slice a2 l2.length c2] 28)).drewN n) h1 z1 ((r1.below b0).drewN n)
  have d2 := fun n => specList a2 c2 l2 ((w.alloc (.cells #[.slice a1 l1.length c1, .slice a2 l2.length c2] 28)).drewN n) h2 z2 ((r2.below b0).drewN n)
  clear b0 r1 r2 z1 z2 h1 h2
  generalize l1.length = x1 at *
  generalize l2.length = x2 at *
  generalize listOk l1 = b1 at *
  generalize listOk l2 = b2 at *
  go_enter Try.func42, Try.ntmps42
  go_wp2_with fail
  go_at_call 63
  refine (d1 0).mono ?_
  rintro e w2 ⟨rfl, n, rfl⟩
  cases b1
  · go_wp2
    go_ret
    exact ⟨by simp, (HD _).out⟩
  · go_wp2_with fail
    go_at_call 63
    refine (d2 _).mono ?_
    rintro e w3 ⟨rfl, m, rfl⟩
    go_wp2
    go_ret
    exact ⟨by simp, (HD _).out⟩
end Go.Proofs.Ytmappmboedpgmaq.Wk
