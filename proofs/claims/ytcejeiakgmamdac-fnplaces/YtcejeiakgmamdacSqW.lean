/- A loop over a sequence of numbers: what its body leaves alone; what slices.AppendSeq comes to, whatever the sequence. -/
import Derived.Test.YtcejeiakgmamdacZnM
import Derived.Test.YtcejeiakgmamdacStB
import Derived.RangeFuncBox
import Derived.RangeFuncLeaves
import Derived.Shelf.Abstract
import Derived.WalkKit
import Derived.OwnWalkIn
import Derived.TacticsInMore
import Derived.LoopNIn
import Derived.LoopIn
import Derived.Maps.AppendAt
namespace Go.Proofs.Ytcejeiakgmamdac.Wk
set_option linter.unusedVariables false
open Go.ChangeShapes Go.WideShapes Go.ChangeAt Go.RowKit

attribute [local go_sem] Oper.semAt_some

/-- what lies below n₀ is as it was, and so are all cells but those of numbers and of slices of numbers -/
def KpA (n₀ : Nat) (W W' : World) : Prop := Below n₀ W W' ∧ ∀ (k : Nat) (cs : Array Value) (t : TypeId) (fr : Nat × Nat), t ≠ 3 → t ≠ 32 → W.heap[k]? = some (.cells cs t fr) → W'.heap[k]? = some (.cells cs t fr)
theorem kpA_refl (n₀ : Nat) (W : World) : KpA n₀ W W := ⟨Below.refl _ _, fun _ _ _ _ _ _ h => h⟩
theorem kpA_t {n₀ : Nat} {A B C : World} (h : KpA n₀ A B) (k : KpA n₀ B C) : KpA n₀ A C := ⟨h.1.trans k.1, fun i cs t fr h1 h2 h3 => k.2 i cs t fr h1 h2 (h.2 i cs t fr h1 h2 h3)⟩
theorem kpA_b {n₀ : Nat} {w : World} (hn : n₀ ≤ w.heap.size) (W : World) (l : Nat) (o o' : Obj) (hl : w.heap.size ≤ l) (h : W.heap[l]? = some o) (hc : o.isCells = false) (hw : o.isWalk = false) : KpA n₀ W (W.putObj l o') := by
  refine ⟨belowK_b hn W l o o' hl h hc hw, fun k cs t fr _ _ h1 => ?_⟩
  have hne : k ≠ l := by
    rintro rfl
    rw [h1] at h
    cases h
    cases hc
  exact (World.putObj_heap_other hne).trans h1
theorem kpA_app {W w1 : World} {base B n : Nat} {v v' : Value} {xs : List Value} {tmp : Obj} (hv : Boxed W B 32 v) (hrow : W.ownsRow base 3 1 v n xs) (hgrow : (W.alloc tmp).grownBy w1 v.ownBlock) (hb : Below base W (w1.setCell ⟨B, 0, none⟩ v')) : KpA base W (w1.setCell ⟨B, 0, none⟩ v') := by
  refine ⟨hb, fun k cs t fr h1 h2 h3 => ?_⟩
  have hk : k < W.heap.size := (Array.getElem?_eq_some_iff.1 h3).1
  have hB : k ≠ B := by
    rintro rfl
    have e := h3.symm.trans hv
    simp only [Option.some.injEq, Obj.cells.injEq] at e
    exact h2 e.2.1
  have hv' : some k ≠ v.ownBlock := by
    intro e
    rcases hrow.2 with ⟨rfl, _⟩ | ⟨g, cap, cur, rfl, _, hg, _⟩
    · cases e
    · cases e
      have e := h3.symm.trans hg
      simp only [Option.some.injEq, Obj.cells.injEq] at e
      exact h1 e.2.1
  rw [Below.heap_setCell _ _ _ _ hB, hgrow.block k (by simp; omega) hv', Below.heap_alloc _ _ _ hk]
  exact h3

set_option maxHeartbeats 2000000 in
set_option maxRecDepth 100000 in
theorem appSeq (g : Nat) (lb : Array Value) (eg : ∀ args w, (callFunc g args).run Try.prog w = .ok (.enter g args) w) (zs : List Int) (hz : zs.length ≤ 2097152) (base : Nat) (a0 : Option Addr) (c0 : Nat) (Sp : List Int → Prop) (w : World)
    (hown : w.ownsRow base 3 1 (.slice a0 0 c0) 0 (Zv [])) (hbase : base ≤ w.heap.size) (hnn : Value.slice a0 0 c0 ≠ .slice none 0 0) (hseq : SeqStopsK Fence.wide 8 Try.prog g lb (fun x : Int => #[.int .i64 x]) (KpA base) (fun ys => ys = zs) Sp zs.length w) :
    Calls Try.prog 70 #[.slice a0 0 c0, .func (.func g) #[] lb] w fun e w' => ∃ (g' c' : Nat), e = .returned (.slice (some ⟨g', 0, none⟩) zs.length c') ∧ w'.ownsRow base 3 1 (.slice (some ⟨g', 0, none⟩) zs.length c') zs.length (Zv zs) ∧ Below base w w' := by
  obtain ⟨i0, hi, hz0, hz1, hz2⟩ := info_parts infoZ
  refine callsIn_wide.1 (callsIn_of_wp_marks (n := 9) Try.func70 rfl trivial ?_ rfl)
  simp only [Try.ntmps70, List.size_toArray, List.length_cons, List.length_nil, Nat.reduceAdd, Nat.reduceSub, Array.replicate_succ, Array.replicate_zero, List.push_toArray, List.append_toArray, List.nil_append, List.cons_append]
  gi_wp2
  have bO := Boxed.new w 32 (.slice a0 0 c0)
  have hB0 : Below base w (w.alloc (.cells #[.slice a0 0 c0] 32)) := (Below.refl _ w).alloc hbase _
  refine wpIn_rangeFunc_ownF rfl (by omega) (gf := g) (lb := lb) rfl trivial eg hseq kpA_t (kpA_b (by simp; omega)) ((Below.refl _ w).alloc (Nat.le_refl _) _) (fun _ => rfl)
    (fun pre W => (∃ v, Boxed W w.heap.size 32 v ∧ W.ownsRow base 3 1 v pre.length (Zv pre) ∧ v ≠ .slice none 0 0) ∧ Below base w W)
    (fun _ _ _ => False)
    (OwnFrom.and (Own.from (holdsRow_own base w.heap.size 32 3 1 (fun pre => pre.length) (fun pre => Zv pre) (fun pre v => v ≠ .slice none 0 0)) _) (ownFrom_below hbase (by simp; omega)))
    (fun _ _ _ _ _ hs _ _ => hs)
    ⟨⟨_, bO, hown.alloc _, hnn⟩, hB0⟩
    (fun x => { tmps := #[.slice a0 0 c0, .func (.func g) #[] lb, .pointer (some ⟨w.heap.size, 0, none⟩), undef, .slice none 0 0, .int .i64 x, .func (.func g) #[] lb, .int .i64 x, undef, undef, undef, undef, undef], defers := [] }) ?assign ?body ?done ?stop
  case assign =>
    intro l x W K hK
    gi_wp2
    exact hK
  case body =>
    rintro l pre x W ⟨⟨v, hv, hrow, hnil⟩, hB⟩ hlt
    have hc := hv.cell
    gi_wp2_with (gi_at_builtin; refine wpListIn_append_own _ rfl _ _ 32 rfl base 3 i0 (.int .i64 0) 1 8 Try.underlying32 hi hz0 hz1 hz2 rfl (by decide) _ _ _ rfl (hrow.alloc _) ⟨W.heap.size, 0, none⟩ 1 1 [.int .i64 x] rfl rfl (cell_one_new _ _ _) (by simp [Value.oneCell']) (by unfold maxLen; omega) (by omega) (by have := hB.size; simp; omega) ?_; intro v' w1 hown' hgrow hnil'; obtain ⟨g', cap', rfl⟩ := ownsRow_succ hown'; obtain ⟨hv1, hv2, hr2, hk2, hb2⟩ := hv.appended (by decide) hrow (Nat.le_trans hbase hB.size) hbase hown' hgrow; have hc1 := hv1.cell; have hf1 := hv1.frozen)
    exact ⟨hk2, kpA_app hv hrow hgrow hb2, ⟨_, hv2, by rw [Zv_snoc]; simpa using hr2, by simp⟩, hB.trans hb2⟩
  case done =>
    rintro D ys W hD rfl ⟨⟨v, hv, hrow, hnil⟩, hB⟩ hK
    have hc := hv.cell
    gi_wp2
    refine ⟨by simp, .inl ⟨_, _, rfl, run_takeDeferred hK, ?_⟩⟩
    obtain ⟨g', c', rfl⟩ : ∃ g' c', v = .slice (some ⟨g', 0, none⟩) ys.length c' := by
      rcases hrow.2 with ⟨e, _⟩ | ⟨g', c', _, e, _⟩
      · exact absurd e hnil
      · exact ⟨g', c', e⟩
    exact ⟨_, results_tmp rfl _ _ _, g', c', rfl, ownsRow_putObj hrow _ hK rfl, hB.trans (belowK_b (w := w) hbase W D _ _ (by simp at hD; omega) hK rfl rfl)⟩
  case stop =>
    rintro D c pre W _ _ h _
    exact h.elim
end Go.Proofs.Ytcejeiakgmamdac.Wk
