/- What slices.Clone comes to: over numbers, over parts; copyRing of the program. -/
import Derived.Test.YtoemblcheahbeacRbW
import Derived.Test.YtoemblcheahbeacApZ
import Derived.Test.YtoemblcheahbeacRgZ
import Derived.Deep.RegionHeld3
import Derived.Lib.SliceRun
namespace Go.Proofs.Ytoemblcheahbeac.Wk
set_option linter.unusedVariables false
open Go.ChangeShapes Go.WideShapes Go.ChangeAt Go.RowKit

set_option maxHeartbeats 1000000 in
set_option maxRecDepth 100000 in
theorem cloneZ (a : Option Addr) (ca : Nat) (p : List Int) (w : World) (hp : p.length ≤ 1048576) (hr : RdZ w a p) (hnil : a = none → ca = 0) :
    Calls Try.prog 69 #[.slice a p.length ca] w fun e w' => ∃ (a' : Option Addr) (c' : Nat), e = .returned (.slice a' p.length c') ∧ w'.ownsRow w.heap.size 3 1 (.slice a' p.length c') p.length (Zv p) ∧ Below w.heap.size w w' := by
  cases a with
  | none =>
    obtain rfl := hnil rfl
    have hm : p = [] := by
      cases p with
      | nil => rfl
      | cons y r =>
        obtain ⟨_, _, e, _⟩ := hr 0 (by simp)
        cases e
    subst hm
    have qN : ∀ (w : World) (a : Option Addr) (n c n' c' : Nat), (binOp .eql 32 (.slice a n c) (.slice none n' c')).run Try.prog w = .ok (.bool a.isNone) w := fun w a n c n' c' => Go.Lib.run_eql_slice_nil w _ _ a n c n' c' Try.underlying32
    go_enter Try.func69, Try.ntmps69
    go_wp2
    go_ret
    exact ⟨none, 0, rfl, World.ownsRow_nil _ _ _ _, Below.refl _ _⟩
  | some ad =>
    have hb := bel1 w (.cells #[] 3)
    have hrA := hr.below hb
    have qN : ∀ (w : World) (a : Option Addr) (n c n' c' : Nat), (binOp .eql 32 (.slice a n c) (.slice none n' c')).run Try.prog w = .ok (.bool a.isNone) w := fun w a n c n' c' => Go.Lib.run_eql_slice_nil w _ _ a n c n' c' Try.underlying32
    go_enter Try.func69, Try.ntmps69
    go_wp2_with (at_builtin; refine wpList_appZ _ rfl (.tmp 5) (.tmp 6) rfl w.heap.size (.slice (some ⟨w.heap.size, 0, none⟩) 0 0) [] rfl (emptyB w _ (Nat.le_refl _)) (some ad) ca p rfl hrA (fun e => by cases e) (by simp; omega) (by simp) ?_; intro v7 w7 hown7 hg7)
    simp only [List.nil_append] at hown7
    obtain ⟨a7, c7, rfl⟩ := Zv_shape hown7
    go_ret
    exact ⟨a7, c7, rfl, hown7, hb.grown hg7 (by simp) (fun j e => by cases e; exact Nat.le_refl _)⟩

theorem emptyP (w : World) : (w.alloc (.cells #[] 36)).ownsRow w.heap.size 36 1 (.slice (some ⟨w.heap.size, 0, none⟩) 0 0) 0 [] := World.ownsRow_made w #[] 0 (Nat.le_refl _) (Nat.zero_le _) rfl
set_option maxHeartbeats 1000000 in
set_option maxRecDepth 100000 in
theorem cloneP (a : Option Addr) (ca : Nat) (Q : List (List Int)) (w : World) (hQ : Q.length ≤ 1048576) (hr : RdN w a Q) (hnil : a = none → ca = 0) :
    Calls Try.prog 68 #[.slice a Q.length ca] w fun e w' => ∃ (a' : Option Addr) (c' : Nat) (vs : List Value), e = .returned (.slice a' Q.length c') ∧ w'.ownsRow w.heap.size 36 1 (.slice a' Q.length c') Q.length vs ∧ (∀ w0 : World, Below w0.heap.size w0 w → RdN w0 a Q → RowP w0 vs Q) ∧ Below w.heap.size w w' := by
  cases a with
  | none =>
    obtain rfl := hnil rfl
    have hm : Q = [] := by
      cases Q with
      | nil => rfl
      | cons y r =>
        obtain ⟨_, _, _, _, e, _⟩ := hr 0 (by simp)
        cases e
    subst hm
    have qN : ∀ (w : World) (a : Option Addr) (n c n' c' : Nat), (binOp .eql 27 (.slice a n c) (.slice none n' c')).run Try.prog w = .ok (.bool a.isNone) w := fun w a n c n' c' => Go.Lib.run_eql_slice_nil w _ _ a n c n' c' Try.underlying27
    go_enter Try.func68, Try.ntmps68
    go_wp2
    go_ret
    exact ⟨none, 0, rfl, [], World.ownsRow_nil _ _ _ _, fun _ _ _ => ⟨rfl, fun i hi => absurd hi (Nat.not_lt_zero i)⟩, Below.refl _ _⟩
  | some ad =>
    obtain ⟨b, off, fld⟩ := ad
    obtain ⟨i0, hi0, hz0, hz1, hz2⟩ := info_parts infoPt
    have hb := bel1 w (.cells #[] 36)
    have hflat : ∃ vs, RowP w vs Q ∧ ∀ j u, vs[j]? = some u → w.cell? ((⟨b, off, fld⟩ : Addr).add j) = some u := by
      by_cases h0 : 0 < Q.length
      · obtain ⟨b', off', _, _, e, _⟩ := hr 0 h0
        simp only [Option.some.injEq, Addr.mk.injEq] at e
        obtain ⟨rfl, rfl, rfl⟩ := e
        exact RdN.row hr
      · have hm : Q = [] := List.length_eq_zero_iff.1 (by omega)
        subst hm
        exact ⟨[], ⟨rfl, fun i hi => absurd hi (Nat.not_lt_zero i)⟩, fun j u h => by simp at h⟩
    obtain ⟨vs, hR, hcells⟩ := hflat
    have hvl : vs.length = Q.length := hR.1
    have HS : Hid (∀ w0 : World, Below w0.heap.size w0 w → RdN w0 (some ⟨b, off, fld⟩) Q → RowP w0 vs Q) := fun w0 h1 h2 => h2.rowOf h1 hvl hcells
    have HC : Hid (∀ j u, vs[j]? = some u → (w.alloc (.cells #[] 36)).cell? ((⟨b, off, fld⟩ : Addr).add j) = some u) := fun j u h => by
      have h9 := hcells j u h
      rw [hb.cell (World.block_lt_of_cell? w _ h9)]
      exact h9
    clear hcells
    have qN : ∀ (w : World) (a : Option Addr) (n c n' c' : Nat), (binOp .eql 27 (.slice a n c) (.slice none n' c')).run Try.prog w = .ok (.bool a.isNone) w := fun w a n c n' c' => Go.Lib.run_eql_slice_nil w _ _ a n c n' c' Try.underlying27
    go_enter Try.func68, Try.ntmps68
    go_wp2_with (at_builtin; refine wpList_append_own _ rfl (.tmp 5) (.tmp 6) 27 rfl w.heap.size 36 i0 _ 1 24 Try.underlying27 hi0 hz0 hz1 hz2 rfl (by decide) (.slice (some ⟨w.heap.size, 0, none⟩) 0 0) 0 [] rfl (emptyP w) ⟨b, off, fld⟩ Q.length ca vs rfl (by omega) HC.out hR.one (by unfold maxLen; omega) (by omega) (by simp) ?_; intro v7 w7 hown7 hg7 hnil7)
    simp only [List.nil_append, Nat.zero_add] at hown7
    obtain ⟨a7, c7, rfl⟩ := Zv_shape hown7
    have hB7 : Below w.heap.size w w7 := hb.grown hg7 (by simp) (fun j e => by cases e; exact Nat.le_refl _)
    go_ret
    exact ⟨a7, c7, vs, rfl, hown7, HS.out, hB7⟩
end Go.Proofs.Ytoemblcheahbeac.Wk
