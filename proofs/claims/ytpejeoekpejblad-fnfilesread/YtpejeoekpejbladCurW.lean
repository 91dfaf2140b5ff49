/- What the helpers that draw come to: a cursor over the code; each number that is drawn lies in its range; only the cursor is written. -/
import Derived.Test.YtpejeoekpejbladBy
namespace Go.Proofs.Ytpejeoekpejblad.Wk
set_option linter.unusedVariables false
open Go.ChangeShapes Go.WideShapes Go.ChangeAt Go.RowKit

/-- block C holds a cursor over the bytes l, which lie below it -/
def Cur (w : World) (C : Nat) (l : List UInt8) : Prop := l.length ≤ 1048576 ∧ ∃ (a : Option Addr) (cap : Nat) (i h : Int),
  w.cell? ⟨C, 0, none⟩ = some (.slice a l.length cap) ∧ w.cell? ⟨C, 1, none⟩ = some (.int .i64 i) ∧ w.cell? ⟨C, 2, none⟩ = some (.int .i64 h) ∧
  w.frozen? ⟨C, 1, none⟩ = false ∧ w.frozen? ⟨C, 2, none⟩ = false ∧ 0 ≤ i ∧ i ≤ l.length ∧ RdA w a l ∧ (∀ x, a = some x → 0 < l.length → x.block < C)

theorem and255 (x : Int) : 0 ≤ bits .and .i64 x 255 ∧ bits .and .i64 x 255 ≤ 255 := by
  have h : bits .and .i64 x 255 = IntKind.i64.wrap ((BitVec.ofInt 64 x &&& BitVec.ofInt 64 255).toNat : Int) := rfl
  have h2 : (BitVec.ofInt 64 x &&& BitVec.ofInt 64 255).toNat ≤ 255 := by
    rw [BitVec.toNat_and, show (BitVec.ofInt 64 255).toNat = 255 from rfl]
    exact Nat.and_le_right
  rw [h, Mt.wrap_i64 _ (by omega) (by omega)]
  omega

theorem rdGrown {w w' : World} {C : Nat} {a : Option Addr} {l : List UInt8} (hr : RdA w a l) (hg : w.grownBy w' (some C)) (hb : ∀ x, a = some x → 0 < l.length → x.block < C) : RdA w' a l := by
  intro i hi
  obtain ⟨b, off, rfl, hc⟩ := hr i hi
  have hbC : b < C := hb _ rfl (by omega)
  exact ⟨b, off, rfl, hg.cell hc (by simp; omega)⟩
theorem grownSet (w : World) (C j : Nat) (u : Value) : w.grownBy (w.setCell ⟨C, j, none⟩ u) (some C) :=
  ⟨rfl, rfl, rfl, by simp, fun k _ hk => heap_setCell_other w ⟨C, j, none⟩ k u (fun e => hk (by simp [e]))⟩
theorem grownDrewN {w w' : World} {r : Option Nat} (h : w.grownBy w' r) (n : Nat) : w.grownBy (w'.drewN n) r := ⟨h.os, h.tape, h.output, h.size, h.block⟩
theorem grownTrans {w w1 w2 : World} {r : Option Nat} (h : w.grownBy w1 r) (k : w1.grownBy w2 r) : w.grownBy w2 r :=
  ⟨k.os.trans h.os, k.tape.trans h.tape, k.output.trans h.output, Nat.le_trans h.size k.size, fun i hi hn => (k.block i (Nat.lt_of_lt_of_le hi h.size) hn).trans (h.block i hi hn)⟩

set_option maxHeartbeats 1000000 in
set_option maxRecDepth 100000 in
theorem l1Byte (C : Nat) (l : List UInt8) (w : World) (hc : Cur w C l) :
    Calls Try.prog 50 #[.pointer (some ⟨C, 0, none⟩)] w fun e w' => ∃ x : Int, e = .returned (.int .i64 x) ∧ 0 ≤ x ∧ x ≤ 255 ∧ Cur w' C l ∧ w.grownBy w' (some C) := by
  obtain ⟨hl, a, cap, i, h, c0, c1, c2, f1, f2, hi0, hi1, hr, hbl⟩ := hc
  obtain ⟨H, hH⟩ : ∃ H, wrap64 (wrap64 (h * 6364136223846793005) + 1442695040888963407) = H := ⟨_, rfl⟩
  obtain ⟨X, hX⟩ : ∃ X, bits .and .i64 (bits .xor .i64 (H / 8589934592) (H / 140737488355328)) 255 = X := ⟨_, rfl⟩
  have hX1 : 0 ≤ X ∧ X ≤ 255 := by rw [← hX]; exact and255 _
  obtain ⟨hX0, hX255⟩ := hX1
  have hs0 : ∀ v, (w.setCell ⟨C, 2, none⟩ v).cell? ⟨C, 0, none⟩ = some (.slice a l.length cap) := fun v => by rw [World.cell?_setCell_other _ _ _ _ (by simp)]; exact c0
  have hs1 : ∀ v, (w.setCell ⟨C, 2, none⟩ v).cell? ⟨C, 1, none⟩ = some (.int .i64 i) := fun v => by rw [World.cell?_setCell_other _ _ _ _ (by simp)]; exact c1
  by_cases hlt : i < l.length
  · obtain ⟨j, rfl⟩ := Int.eq_ofNat_of_zero_le hi0
    obtain ⟨b, off, rfl, hcell⟩ := hr j (by omega)
    have hbC : b < C := hbl _ rfl (by omega)
    have hsb : ∀ v, (w.setCell ⟨C, 2, none⟩ v).cell? ⟨b, off + j, none⟩ = some (.int .u8 (l[j].toNat : Int)) := fun v => by rw [World.cell?_setCell_other _ _ _ _ (fun e => by have e2 : C = b := congrArg Addr.block e; omega)]; exact hcell
    have hcl : l[j].toNat < 256 := l[j].toNat_lt
    generalize l[j].toNat = c at hsb hcl hcell
    obtain ⟨Y, hY⟩ : ∃ Y, bits .and .i64 (X + (c : Int)) 255 = Y := ⟨_, rfl⟩
    have hY1 : 0 ≤ Y ∧ Y ≤ 255 := by rw [← hY]; exact and255 _
    obtain ⟨hY0, hY255⟩ := hY1
    go_enter Try.func50, Try.ntmps50
    go_wp2
    go_quiet (fail)
    go_wp2
    go_quiet (fail)
    go_wp2
    go_quiet (fail)
    go_wp2
    go_ret
    refine ⟨Y, rfl, hY0, hY255, ?_, ?_⟩
    · refine ⟨hl, _, cap, (j : Int) + 1, H, ?_, ?_, ?_, ?_, ?_, by omega, by omega, rdGrown hr (grownTrans (grownDrewN (grownSet w C 2 _) _) (grownSet _ C 1 _)) hbl, hbl⟩
      · rw [World.cell?_setCell_other _ _ _ _ (by simp)]; exact hs0 _
      · exact World.cell?_setCell_same' _ _ _ (by have := hs1 (.int .i64 H); show ((w.setCell ⟨C, 2, none⟩ (.int .i64 H)).cell? ⟨C, 1, none⟩).isSome = true; rw [this]; rfl)
      · rw [World.cell?_setCell_other _ _ _ _ (by simp)]; exact World.cell?_setCell_same' _ _ _ (by rw [c2]; rfl)
      · rw [World.frozen?_setCell]; show (w.setCell ⟨C, 2, none⟩ (.int .i64 H)).frozen? _ = false; rw [World.frozen?_setCell]; exact f1
      · rw [World.frozen?_setCell]; show (w.setCell ⟨C, 2, none⟩ (.int .i64 H)).frozen? _ = false; rw [World.frozen?_setCell]; exact f2
    · exact grownTrans (grownDrewN (grownSet w C 2 _) _) (grownSet _ C 1 _)
  · go_enter Try.func50, Try.ntmps50
    go_wp2
    go_quiet (fail)
    go_wp2
    go_quiet (fail)
    go_wp2
    go_ret
    refine ⟨X, rfl, hX0, hX255, ?_, ?_⟩
    · refine ⟨hl, _, cap, i, H, ?_, ?_, ?_, ?_, ?_, hi0, hi1, rdGrown hr (grownDrewN (grownDrewN (grownSet w C 2 _) _) _) hbl, hbl⟩
      · exact hs0 _
      · exact hs1 _
      · exact World.cell?_setCell_same' _ _ _ (by rw [c2]; rfl)
      · show (w.setCell ⟨C, 2, none⟩ (.int .i64 H)).frozen? _ = false; rw [World.frozen?_setCell]; exact f1
      · show (w.setCell ⟨C, 2, none⟩ (.int .i64 H)).frozen? _ = false; rw [World.frozen?_setCell]; exact f2
    · exact grownDrewN (grownDrewN (grownSet w C 2 _) _) _
end Go.Proofs.Ytpejeoekpejblad.Wk
