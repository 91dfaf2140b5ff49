/- What getNums of the program comes to: one number behind the other, each stored where its pointer leads, until one cannot be read. -/
import Derived.Test.YtpejeoekpejbladGetNumI
import Derived.Test.YtpejeoekpejbladGfM
namespace Go.Proofs.Ytpejeoekpejblad.Wk
set_option linter.unusedVariables false
open Go.ChangeShapes Go.WideShapes Go.ChangeAt Go.RowKit

/-- the world behind, and the place behind the last number -/
def runNums (l : List UInt8) : List Addr → Int → World → World × Option Int
  | [], p, w => (w, some p)
  | x :: xs, p, w => if (Mt.getNum l p).isSome then runNums l xs (np (Mt.getNum l p)) (w.setCell x (.int .i64 (nv (Mt.getNum l p)))) else (w.setCell x (.int .i64 (nv (Mt.getNum l p))), none)
def numsV : Option Int → Value
  | some p => .tuple #[.int .i64 p, .bool true]
  | none => .tuple #[.int .i64 0, .bool false]
/-- the pointers' row, what they lead to, the bytes -/
def NumsAt (w : World) (L : List Addr) (r : Nat) (a : Option Addr) (l : List UInt8) : Prop :=
  (∀ x ∈ L, (∃ v, w.cell? x = some v) ∧ w.frozen? x = false) ∧ (∀ i (h : i < L.length), w.cell? ⟨r, i, none⟩ = some (.pointer (some L[i]))) ∧ RdA w a l
theorem NumsAt.set {w : World} {L : List Addr} {r : Nat} {a : Option Addr} {l : List UInt8} (h : NumsAt w L r a l) (hr : ∀ y ∈ L, y.block ≠ r) (ha : 0 < l.length → ∀ b off, a = some ⟨b, off, none⟩ → ∀ y ∈ L, y.block ≠ b) {x : Addr} (hx : x ∈ L) (u : Value) : NumsAt (w.setCell x u) L r a l := by
  obtain ⟨h1, h2, h3⟩ := h
  refine ⟨fun y hy => ⟨?_, ?_⟩, fun i hi => ?_, fun i hi => ?_⟩
  · by_cases e : y = x
    · subst e
      obtain ⟨⟨v, hv⟩, -⟩ := h1 y hy
      exact ⟨u, World.cell?_setCell_same' _ _ _ (by rw [hv]; rfl)⟩
    · obtain ⟨⟨v, hv⟩, -⟩ := h1 y hy
      exact ⟨v, by rw [World.cell?_setCell_other _ _ _ _ (Ne.symm e)]; exact hv⟩
  · rw [World.frozen?_setCell]; exact (h1 y hy).2
  · rw [World.cell?_setCell_other _ _ _ _ (by intro e; exact hr x hx (by rw [e]))]; exact h2 i hi
  · obtain ⟨b, off, e, hc⟩ := h3 i hi
    exact ⟨b, off, e, by rw [World.cell?_setCell_other _ _ _ _ (by intro e'; exact ha (by omega) b off e x hx (by rw [e']))]; exact hc⟩

set_option maxHeartbeats 2000000 in
set_option maxRecDepth 100000 in
theorem getNums (a : Option Addr) (cap : Nat) (l : List UInt8) (L : List Addr) (r c : Nat) (p : Int) (w : World) (hl : l.length ≤ 1048576) (hcap : l.length ≤ cap) (hcm : cap ≤ maxLen) (hL : L.length ≤ 1000)
    (h : NumsAt w L r a l) (hr : ∀ y ∈ L, y.block ≠ r) (ha : 0 < l.length → ∀ b off, a = some ⟨b, off, none⟩ → ∀ y ∈ L, y.block ≠ b) :
    Calls Try.prog 41 #[.slice a l.length cap, .int .i64 p, .slice (some ⟨r, 0, none⟩) L.length c] w fun e w' => e = .returned (numsV (runNums l L p w).2) ∧ w' = (runNums l L p w).1 := by
  have cG := fun w p h => implGetNum a cap l p w hl hcap hcm h
  obtain ⟨R, hR⟩ : ∃ R, Hid (runNums l L p w = R) := ⟨_, rfl⟩
  rw [hR.out]
  go_enter Try.func41, Try.ntmps41
  go_wp2
  go_loopw [1, 13] (fun v i wr => ∃ (k : Nat) (pk : Int), k ≤ L.length ∧ i = .int .i64 k ∧ v = .int .i64 pk ∧ NumsAt wr L r a l ∧ Hid (runNums l (L.drop k) pk wr = R)) (fun _ i _ => L.length - (intOf i).toNat)
  case atStart => exact ⟨0, p, Nat.zero_le _, rfl, rfl, h, hR⟩
  case round =>
    obtain ⟨k, pk, hk, rfl, rfl, hN, hRk⟩ := hrel
    by_cases hlt : k < L.length
    · have hx := List.getElem_mem hlt
      have hrow := hN.2.1 k hlt
      obtain ⟨⟨v0, hv0⟩, hfz⟩ := hN.1 L[k] hx
      have hG := cG wr pk hN.2.2
      rw [numV_eq] at hG
      rw [List.drop_eq_getElem_cons hlt] at hRk
      have hN1 := hN.set hr ha hx (.int .i64 (nv (Mt.getNum l pk)))
      have hRk2 : Hid ((if (Mt.getNum l pk).isSome then runNums l (L.drop (k + 1)) (np (Mt.getNum l pk)) (wr.setCell L[k] (.int .i64 (nv (Mt.getNum l pk)))) else (wr.setCell L[k] (.int .i64 (nv (Mt.getNum l pk))), none)) = R) := hRk
      clear hRk
      generalize Mt.getNum l pk = o at hG hN1 hRk2
      generalize nv o = n1 at hG hN1 hRk2
      generalize np o = p1 at hG hRk2
      generalize o.isSome = s1 at hG hRk2
      generalize L[k] = x at hrow hv0 hfz hN1 hRk2
      go_wp2_with fail
      refine hG.mono ?_
      rintro e w1 ⟨rfl, hw1⟩
      subst hw1
      cases s1 with
      | true =>
        go_wp2
        go_roundw
        case rel => exact ⟨k + 1, p1, by omega, by go_num, rfl, hN1, hRk2⟩
        case measure => simp [intOf]; omega
      | false =>
        go_wp2
        have e2 := hRk2.out
        simp only [Bool.false_eq_true, if_false] at e2
        rw [← e2]
        go_ret2
        exact ⟨rfl, rfl⟩
    · have hkL : k = L.length := by omega
      subst hkL
      rw [List.drop_length] at hRk
      have e2 : (wr, some pk) = R := hRk.out
      go_wp2
      rw [← e2]
      go_ret2
      exact ⟨rfl, rfl⟩
end Go.Proofs.Ytpejeoekpejblad.Wk
