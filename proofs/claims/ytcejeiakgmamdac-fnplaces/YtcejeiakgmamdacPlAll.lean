/- Places, all of it in one text: the plain facts, the specification's side, the sequences and what the program makes of them. -/
import Derived.Test.YtcejeiakgmamdacPtW
import Derived.Test.YtcejeiakgmamdacOpM
import Derived.Test.YtcejeiakgmamdacRgB
import Derived.Test.YtcejeiakgmamdacZnM
import Derived.Test.YtcejeiakgmamdacStB
import Derived.Test.YtcejeiakgmamdacOwM
import Derived.Test.YtcejeiakgmamdacApZ
import Derived.Test.YtcejeiakgmamdacOtI
import Derived.Test.YtcejeiakgmamdacRbW
import Derived.Test.YtcejeiakgmamdacZnS
import Derived.Test.YtcejeiakgmamdacSpS
import Derived.Test.YtcejeiakgmamdacLwM
import Derived.Deep.RegionHeld3
import Derived.RangeFuncBox
import Derived.RangeFuncLeaves
import Derived.Shelf.Abstract
import Derived.WalkKit
import Derived.OwnWalkIn
import Derived.TacticsInMore
import Derived.LoopNIn
import Derived.LoopIn
import Derived.Maps.AppendAt
import Derived.Laws.ByValue
import Derived.Lib.AppendZerosOnto
import Derived.Lib.SliceRun
import Derived.Lib.Walk
import Derived.Laws.OwnMore
import Derived.Laws.AppendOwn
namespace Go.Proofs.Ytcejeiakgmamdac.Wk
set_option linter.unusedVariables false

/-- the Ids of the part that the text falls into; none where there are no parts -/
def pick (ps : List (List Int)) (s : ByteArray) : List Int := (ps[(partN s ps.length).toNat]?).getD []
theorem pick_nil (s : ByteArray) : pick [] s = [] := rfl
theorem pick_at {ps : List (List Int)} (s : ByteArray) (h : 0 < ps.length) : ∃ (k : Nat) (hk : k < ps.length), partN s ps.length = k ∧ pick ps s = ps[k] := by
  obtain ⟨h0, h1⟩ := part_range s (ps.length : Int)
  have h2 := h1 (by omega)
  have hk : (partN s ps.length).toNat < ps.length := by omega
  refine ⟨(partN s ps.length).toNat, hk, by omega, ?_⟩
  unfold pick
  rw [List.getElem?_eq_getElem hk]
  rfl
theorem pick_len {ps : List (List Int)} {N : Nat} (s : ByteArray) (h : ∀ q ∈ ps, q.length ≤ N) : (pick ps s).length ≤ N := by
  unfold pick
  cases hx : ps[(partN s ps.length).toNat]? with
  | none => simp
  | some q => exact h q (List.mem_of_getElem? hx)
/-- the Ids of all others: those in zones without a primary, then the rest -/
def hand (p : List Int) (l : List Sm.St) : List Int := (Rg.freshL p (Rg.zns l p) l ++ Rg.otherL p (Rg.zns l p) l).map (·.1)
/-- of these devices those that are taken in the round in which zones with a primary are asked for (R), or not -/
def selH (R : Bool) (p Z : List Int) (l : List Sm.St) : List Int := (l.filter fun d => !decide (d.1 ∈ p) && (decide (d.2.1 ∈ Z) == R)).map (·.1)
theorem selH_fresh (p Z : List Int) (l : List Sm.St) : selH false p Z l = (Rg.freshL p Z l).map (·.1) := by
  unfold selH Rg.freshL
  congr 2
  funext d
  cases decide (d.2.1 ∈ Z) <;> rfl
theorem selH_other (p Z : List Int) (l : List Sm.St) : selH true p Z l = (Rg.otherL p Z l).map (·.1) := by
  unfold selH Rg.otherL
  congr 2
  funext d
  cases decide (d.2.1 ∈ Z) <;> rfl
theorem selH_len (R : Bool) (p Z : List Int) (l : List Sm.St) : (selH R p Z l).length ≤ l.length := by
  unfold selH
  rw [List.length_map]
  exact List.length_filter_le _ _
theorem selH_step {l : List Sm.St} {k : Nat} (hk : k < l.length) (R : Bool) (p Z : List Int) : selH R p Z (l.take (k + 1)) = selH R p Z (l.take k) ++ (if l[k].1 ∈ p then [] else if (decide (l[k].2.1 ∈ Z) == R) = true then [l[k].1] else []) := by
  unfold selH
  rw [List.take_succ_eq_append_getElem hk, List.filter_append, List.map_append]
  congr 1
  by_cases h : l[k].1 ∈ p
  · simp [h]
  · by_cases h2 : (decide (l[k].2.1 ∈ Z) == R) = true
    · simp [h, h2]
    · simp [h, h2]
/-- what is there when r rounds are over -/
def accH (p Z : List Int) (l : List Sm.St) (r : Nat) : List Int := if r = 0 then [] else if r = 1 then selH false p Z l else selH false p Z l ++ selH true p Z l
theorem accH_0 (p Z : List Int) (l : List Sm.St) : accH p Z l 0 = [] := rfl
theorem accH_succ (p Z : List Int) (l : List Sm.St) {r : Nat} (hr : r < 2) : accH p Z l (r + 1) = accH p Z l r ++ selH (decide (r = 1)) p Z l := by
  obtain rfl | rfl : r = 0 ∨ r = 1 := by omega
  · rfl
  · rfl
theorem accH_len (p Z : List Int) (l : List Sm.St) (r : Nat) : (accH p Z l r).length ≤ 2 * l.length := by
  have h1 := selH_len false p Z l
  have h2 := selH_len true p Z l
  unfold accH
  split
  · simp
  · split
    · omega
    · rw [List.length_append]; omega
theorem accH_end (p : List Int) (l : List Sm.St) : accH p (Rg.zns l p) l 2 = hand p l := by
  show selH false p (Rg.zns l p) l ++ selH true p (Rg.zns l p) l = _
  rw [selH_fresh, selH_other, ← List.map_append]
  rfl
theorem hand_len (p : List Int) (l : List Sm.St) : (hand p l).length ≤ l.length := by
  unfold hand
  rw [List.length_map, List.length_append]
  generalize Rg.zns l p = Z
  unfold Rg.freshL Rg.otherL
  induction l with
  | nil => simp
  | cons d r ih =>
    simp only [List.filter_cons, List.length_cons]
    by_cases h : d.1 ∈ p
    · simp [h] at ih ⊢; omega
    · by_cases h2 : d.2.1 ∈ Z
      · simp [h, h2] at ih ⊢; omega
      · simp [h, h2] at ih ⊢; omega
end Go.Proofs.Ytcejeiakgmamdac.Wk

namespace Go.Proofs.Ytcejeiakgmamdac.Wk
set_option linter.unusedVariables false
open Go.ChangeShapes Go.WideShapes Go.ChangeAt Go.RowKit

theorem storeIn {w w1 : World} {b o : Nat} {v : Value} (hb : Below w.heap.size w w1) (h : w.heap.size ≤ b) : Below w.heap.size w (w1.setCell ⟨b, o, none⟩ v) := hb.setCell (p := ⟨b, o, none⟩) h v

theorem keepSet2 {w : World} {a1 a2 : Addr} {v1 v2 v : Value} {b o : Nat} (h1 : w.cell? a1 = some v1) (h2 : w.cell? a2 = some v2) (n1 : a1.block ≠ b) (n2 : a2.block ≠ b) :
    (w.setCell ⟨b, o, none⟩ v).cell? a1 = some v1 ∧ (w.setCell ⟨b, o, none⟩ v).cell? a2 = some v2 :=
  ⟨by rw [World.cell?_setCell_other _ _ _ _ (fun e => n1 (congrArg Addr.block e).symm)]; exact h1, by rw [World.cell?_setCell_other _ _ _ _ (fun e => n2 (congrArg Addr.block e).symm)]; exact h2⟩

set_option maxHeartbeats 2000000 in
set_option maxRecDepth 100000 in
theorem implFor (wz : World) (reps : Int) (a : Option Addr) (ca : Nat) (ps : List (List Int)) (s : ByteArray) (w : World) (hs : s.size ≤ 1048576) (hp : ps.length ≤ 1048576) (hbz : Below wz.heap.size wz w) (hr : RdP wz a ps) :
    Calls Try.prog 91 #[.agg #[.int .i64 reps, .slice a ps.length ca], .string s] w fun e w' => ∃ (ai : Option Addr) (ci : Nat), e = .returned (.agg #[.slice ai (pick ps s).length ci]) ∧ RdZ wz ai (pick ps s) ∧ Below w.heap.size w w' := by
  have s0 := slot2New w (.int .i64 reps) (.slice a ps.length ca) 29
  have b0 := bel1 w (.cells #[.int .i64 reps, .slice a ps.length ca] 29)
  have s1 := slot1New (w.alloc (.cells #[.int .i64 reps, .slice a ps.length ca] 29)) (.slice none 0 0) 36
  have b1 := bel1 (w.alloc (.cells #[.int .i64 reps, .slice a ps.length ca] 29)) (.cells #[.slice none 0 0] 36)
  have hB := behind b0 b1
  have s0 := s0.below b1
  have hr1 := hr.below (behind hbz hB)
  simp only [World.size_alloc] at s1
  obtain ⟨⟨c0, c1⟩, -⟩ := id s0
  obtain ⟨d0, d1⟩ := id s1
  by_cases h : 0 < ps.length
  · obtain ⟨k, hk, hpn, hpk⟩ := pick_at s h
    have cP := fun (w' : World) => implPart s ps.length w' hs
    rw [hpn] at cP
    obtain ⟨b, off, ai, ci, rfl, q0, q1, -⟩ := hr1 k hk
    obtain ⟨b', off', ai', ci', e', q0', q1', -⟩ := hr k hk
    rw [← hpk] at q0 q1 q0' q1'
    clear hpk hpn hr hr1
    cases e'
    obtain ⟨ea, ec⟩ : ai' = ai ∧ ci' = ci := by
      have := (cellOn q0' (behind hbz hB)).symm.trans q0
      simpa using this
    subst ea ec
    have hbl : b ≠ w.heap.size + 1 := by have := World.block_lt_of_cell? wz _ q0'; have := hbz.size; simp at *; omega
    have hsl : w.heap.size ≠ w.heap.size + 1 := by omega
    have hk1 : (k : Int) < (ps.length : Int) := by omega
    have hk0 : (0 : Int) ≤ (k : Int) := by omega
    have h' : ¬ ((ps.length : Int) = 0) := by omega
    go_enter Try.func91, Try.ntmps91
    go_wp2_with fail
    generalize (w.alloc (.cells #[.int .i64 reps, .slice (some ⟨b, off, none⟩) ps.length ca] 29)).alloc (.cells #[.slice none 0 0] 36) = w1 at *
    go_region_held3 (fun wy => wy.cell? ⟨w.heap.size, 1, none⟩ = some (.slice (some ⟨b, off, none⟩) ps.length ca) ∧ wy.cell? ⟨b, off + k, none⟩ = some (.slice ai' (pick ps s).length ci'))
      (first | with_reducible exact ⟨c1, q0⟩ | with_reducible exact ⟨c1', q02⟩ | with_reducible exact keepSet2 c1' q02 hsl hbl | go_keep)
      (first | (go_at_call 101; refine (cP _).mono ?_; rintro e w2 ⟨rfl, hb2⟩; have c1' := cellOn (w := w1.drew) c1 hb2; have q02 := cellOn (w := w1.drew) q0 hb2; have s12 := Slot1.below (w := w1.drew) s1 hb2; obtain ⟨d02, d12⟩ := id s12) | fail)
    have e9 : (w2.setCell ⟨w.heap.size + 1, 0, none⟩ (.slice ai' (pick ps s).length ci')).cell? ⟨w.heap.size + 1, 0, none⟩ = some (.slice ai' (pick ps s).length ci') := World.cell?_setCell_same' _ _ _ (by rw [d02]; rfl)
    go_wp2
    refine bodyPost_ret (v := .agg #[.slice ai' (pick ps s).length ci']) (by simp [results, Try.results91, go_sem, e9]) rfl ⟨ai', ci', rfl, q1', (behind hB.drew hb2).setCell (p := ⟨w.heap.size + 1, 0, none⟩) (by simp) _⟩
  · obtain rfl : ps = [] := by cases ps with | nil => rfl | cons x r => simp at h
    rw [pick_nil]
    go_enter Try.func91, Try.ntmps91
    simp only [List.length_nil] at d0 hB
    go_wp2
    refine bodyPost_ret (v := .agg #[.slice none 0 0]) (by simp [results, Try.results91, go_sem, d0]) rfl ⟨none, 0, rfl, fun i hi => by simp at hi, hB⟩
end Go.Proofs.Ytcejeiakgmamdac.Wk

namespace Go.Proofs.Ytcejeiakgmamdac.Wk
set_option linter.unusedVariables false
open Go.ChangeShapes Go.WideShapes Go.ChangeAt Go.RowKit

attribute [local go_sem] Oper.semAt_some

/-- what lies below n₀ is as it was, and so are all cells but those of numbers and of slices of numbers -/
def KpA (n₀ : Nat) (W W' : World) : Prop := Below n₀ W W' ∧ ∀ (k : Nat) (cs : Array Value) (t : TypeId) (fr : Nat × Nat), t ≠ 3 → t ≠ 32 → W.heap[k]? = some (.cells cs t fr) → W'.heap[k]? = some (.cells cs t fr)
theorem kpA_refl (n₀ : Nat) (W : World) : KpA n₀ W W := ⟨Below.refl _ _, fun _ _ _ _ _ _ h => h⟩
theorem kpA_t {n₀ : Nat} {A B C : World} (h : KpA n₀ A B) (k : KpA n₀ B C) : KpA n₀ A C := ⟨h.1.trans k.1, fun i cs t fr h1 h2 h3 => k.2 i cs t fr h1 h2 (h.2 i cs t fr h1 h2 h3)⟩
theorem kpA_b {n₀ : Nat} {w : World} (hn : n₀ ≤ w.heap.size) (W : World) (l : Nat) (o o' : Obj) (hl : w.heap.size ≤ l) (h : W.heap[l]? = some o) (hc : o.isCells = false) (hw : o.isWalk = false) : KpA n₀ W (W.putObj l o') := by
  refine ⟨belowK_b hn W l o o' hl h hc hw, fun k cs t fr _ _ h1 => ?_⟩
  have hne : k ≠ l := by
    rintro rfl
    rw [h1] at h
    cases h
    cases hc
  exact (World.putObj_heap_other hne).trans h1
theorem kpA_app {W w1 : World} {base B n : Nat} {v v' : Value} {xs : List Value} {tmp : Obj} (hv : Boxed W B 32 v) (hrow : W.ownsRow base 3 1 v n xs) (hgrow : (W.alloc tmp).grownBy w1 v.ownBlock) (hb : Below base W (w1.setCell ⟨B, 0, none⟩ v')) : KpA base W (w1.setCell ⟨B, 0, none⟩ v') := by
  refine ⟨hb, fun k cs t fr h1 h2 h3 => ?_⟩
  have hk : k < W.heap.size := (Array.getElem?_eq_some_iff.1 h3).1
  have hB : k ≠ B := by
    rintro rfl
    have e := h3.symm.trans hv
    simp only [Option.some.injEq, Obj.cells.injEq] at e
    exact h2 e.2.1
  have hv' : some k ≠ v.ownBlock := by
    intro e
    rcases hrow.2 with ⟨rfl, _⟩ | ⟨g, cap, cur, rfl, _, hg, _⟩
    · cases e
    · cases e
      have e := h3.symm.trans hg
      simp only [Option.some.injEq, Obj.cells.injEq] at e
      exact h1 e.2.1
  rw [Below.heap_setCell _ _ _ _ hB, hgrow.block k (by simp; omega) hv', Below.heap_alloc _ _ _ hk]
  exact h3

set_option maxHeartbeats 2000000 in
set_option maxRecDepth 100000 in
theorem appSeq (g : Nat) (lb : Array Value) (eg : ∀ args w, (callFunc g args).run Try.prog w = .ok (.enter g args) w) (zs : List Int) (hz : zs.length ≤ 2097152) (base : Nat) (a0 : Option Addr) (c0 : Nat) (Sp : List Int → Prop) (w : World)
    (hown : w.ownsRow base 3 1 (.slice a0 0 c0) 0 (Zv [])) (hbase : base ≤ w.heap.size) (hnn : Value.slice a0 0 c0 ≠ .slice none 0 0) (hseq : SeqStopsK Fence.wide 8 Try.prog g lb (fun x : Int => #[.int .i64 x]) (KpA base) (fun ys => ys = zs) Sp zs.length w) :
    Calls Try.prog 70 #[.slice a0 0 c0, .func (.func g) #[] lb] w fun e w' => ∃ (g' c' : Nat), e = .returned (.slice (some ⟨g', 0, none⟩) zs.length c') ∧ w'.ownsRow base 3 1 (.slice (some ⟨g', 0, none⟩) zs.length c') zs.length (Zv zs) ∧ Below base w w' := by
  obtain ⟨i0, hi, hz0, hz1, hz2⟩ := info_parts infoZ
  refine callsIn_wide.1 (callsIn_of_wp_marks (n := 9) Try.func70 rfl trivial ?_ rfl)
  simp only [Try.ntmps70, List.size_toArray, List.length_cons, List.length_nil, Nat.reduceAdd, Nat.reduceSub, Array.replicate_succ, Array.replicate_zero, List.push_toArray, List.append_toArray, List.nil_append, List.cons_append]
  gi_wp2
  have bO := Boxed.new w 32 (.slice a0 0 c0)
  have hB0 : Below base w (w.alloc (.cells #[.slice a0 0 c0] 32)) := (Below.refl _ w).alloc hbase _
  refine wpIn_rangeFunc_ownF rfl (by omega) (gf := g) (lb := lb) rfl trivial eg hseq kpA_t (kpA_b (by simp; omega)) ((Below.refl _ w).alloc (Nat.le_refl _) _) (fun _ => rfl)
    (fun pre W => (∃ v, Boxed W w.heap.size 32 v ∧ W.ownsRow base 3 1 v pre.length (Zv pre) ∧ v ≠ .slice none 0 0) ∧ Below base w W)
    (fun _ _ _ => False)
    (OwnFrom.and (Own.from (holdsRow_own base w.heap.size 32 3 1 (fun pre => pre.length) (fun pre => Zv pre) (fun pre v => v ≠ .slice none 0 0)) _) (ownFrom_below hbase (by simp; omega)))
    (fun _ _ _ _ _ hs _ _ => hs)
    ⟨⟨_, bO, hown.alloc _, hnn⟩, hB0⟩
    (fun x => { tmps := #[.slice a0 0 c0, .func (.func g) #[] lb, .pointer (some ⟨w.heap.size, 0, none⟩), undef, .slice none 0 0, .int .i64 x, .func (.func g) #[] lb, .int .i64 x, undef, undef, undef, undef, undef], defers := [] }) ?assign ?body ?done ?stop
  case assign =>
    intro l x W K hK
    gi_wp2
    exact hK
  case body =>
    rintro l pre x W ⟨⟨v, hv, hrow, hnil⟩, hB⟩ hlt
    have hc := hv.cell
    gi_wp2_with (gi_at_builtin; refine wpListIn_append_own _ rfl _ _ 32 rfl base 3 i0 (.int .i64 0) 1 8 Try.underlying32 hi hz0 hz1 hz2 rfl (by decide) _ _ _ rfl (hrow.alloc _) ⟨W.heap.size, 0, none⟩ 1 1 [.int .i64 x] rfl rfl (cell_one_new _ _ _) (by simp [Value.oneCell']) (by unfold maxLen; omega) (by omega) (by have := hB.size; simp; omega) ?_; intro v' w1 hown' hgrow hnil'; obtain ⟨g', cap', rfl⟩ := ownsRow_succ hown'; obtain ⟨hv1, hv2, hr2, hk2, hb2⟩ := hv.appended (by decide) hrow (Nat.le_trans hbase hB.size) hbase hown' hgrow; have hc1 := hv1.cell; have hf1 := hv1.frozen)
    exact ⟨hk2, kpA_app hv hrow hgrow hb2, ⟨_, hv2, by rw [Zv_snoc]; simpa using hr2, by simp⟩, hB.trans hb2⟩
  case done =>
    rintro D ys W hD rfl ⟨⟨v, hv, hrow, hnil⟩, hB⟩ hK
    have hc := hv.cell
    gi_wp2
    refine ⟨by simp, .inl ⟨_, _, rfl, run_takeDeferred hK, ?_⟩⟩
    obtain ⟨g', c', rfl⟩ : ∃ g' c', v = .slice (some ⟨g', 0, none⟩) ys.length c' := by
      rcases hrow.2 with ⟨e, _⟩ | ⟨g', c', _, e, _⟩
      · exact absurd e hnil
      · exact ⟨g', c', e⟩
    exact ⟨_, results_tmp rfl _ _ _, g', c', rfl, ownsRow_putObj hrow _ hK rfl, hB.trans (belowK_b (w := w) hbase W D _ _ (by simp at hD; omega) hK rfl rfl)⟩
  case stop =>
    rintro D c pre W _ _ h _
    exact h.elim
end Go.Proofs.Ytcejeiakgmamdac.Wk

namespace Go.Proofs.Ytcejeiakgmamdac.Wk
set_option linter.unusedVariables false
open Go.ChangeShapes Go.WideShapes Go.ChangeAt Go.RowKit

attribute [local go_sem] Oper.semAt_some

theorem fieldPt (w : World) (a : Option Addr) (n c : Nat) : (Instr.field 36 (.agg #[.slice a n c]) 0).run Try.prog w = .ok (.slice a n c) w := by kernel_rfl

set_option maxHeartbeats 2000000 in
set_option maxRecDepth 100000 in
theorem primSeq (wz : World) (reps : Int) (a : Option Addr) (ca : Nat) (ps : List (List Int)) (s : ByteArray) (hs : s.size ≤ 1048576) (hp : ps.length ≤ 1048576) (hq : (pick ps s).length ≤ 1048576) (hr : RdP wz a ps) (Br Bs : Nat) (w : World)
    (hb : Below wz.heap.size wz w) (h0 : w.cell? ⟨Br, 0, none⟩ = some (.int .i64 reps)) (h1 : w.cell? ⟨Br, 1, none⟩ = some (.slice a ps.length ca)) (h2 : w.cell? ⟨Bs, 0, none⟩ = some (.string s)) (n : Nat) (hn : 2 ≤ n) :
    SeqStopsK Fence.wide n Try.prog 90 #[.pointer (some ⟨Br, 0, none⟩), .pointer (some ⟨Bs, 0, none⟩)] (fun x : Int => #[.int .i64 x]) (KpA wz.heap.size) (fun ys => ys = pick ps s) (fun pre => pre <+: pick ps s) (pick ps s).length w := by
  intro l J Jx W hW hJ hJx hY hJ0
  have c0 := cellOn h0 hW
  have c1 := cellOn h1 hW
  have c2 := cellOn h2 hW
  have hbW : Below wz.heap.size wz W := hb.trans (hW.mono hb.size)
  have cF := implFor wz reps a ca ps s W hs hp hbW hr
  refine callsIn_of_wp (F := Fence.wide) Try.func90 rfl trivial ?_ rfl
  simp only [Try.ntmps90, List.size_toArray, List.length_cons, List.length_nil, Nat.reduceAdd, Nat.reduceSub, Array.replicate_succ, Array.replicate_zero, List.push_toArray, List.append_toArray, List.nil_append, List.cons_append]
  have hfd := fieldPt
  have hf9 : Fence.wide.fn 91 := trivial
  have hn1 : 1 ≤ n := by omega
  gi_wp2_with (gi_at_call 91; refine (callsIn_wide.2 cF).mono ?_; rintro e w2 ⟨ai, ci, rfl, hz, hb2⟩)
  have hJ2 : J [] w2 := hJ [] W w2 none hJ0 ⟨hb2.os, hb2.tape, hb2.output, hb2.size, fun k hk _ => hb2.block k hk⟩ (fun r e => by cases e)
  have hbz : Below wz.heap.size wz w2 := hbW.trans (hb2.mono hbW.size)
  gi_loopw [11] (fun i wr => ∃ k : Nat, k ≤ (pick ps s).length ∧ i = .int .i64 k ∧ J ((pick ps s).take k) wr ∧ Below wz.heap.size wz wr)
    (fun i _ => (pick ps s).length - (intOf i).toNat)
  case atStart => exact ⟨0, Nat.zero_le _, rfl, hJ2, hbz⟩
  case round =>
    obtain ⟨k, hk, rfl, hJs, hbr⟩ := hrel
    have hzr := hz.below hbr
    by_cases hlt : k < (pick ps s).length
    · obtain ⟨b, off, rfl, hc⟩ := hzr k hlt
      have hlt' : (k : Int) < ((pick ps s).length : Int) := by omega
      have hT : (pick ps s).take (k + 1) = (pick ps s).take k ++ [(pick ps s)[k]] := List.take_succ_eq_append_getElem hlt
      have hP : (pick ps s).take (k + 1) <+: pick ps s := List.take_prefix _ _
      obtain ⟨fn, tmps, assign, body, hy, hR⟩ := hY _ (pick ps s)[k] wr hJs (by rw [List.length_take]; omega)
      rw [← hT] at hR
      generalize (pick ps s)[k] = x at hc hy hR
      gi_wp2
      refine hR.mono ?_
      rintro e W3 (⟨rfl, hJ3, hk3⟩ | ⟨rfl, hJx3⟩)
      · gi_wp2
        go_roundw
        case rel => exact ⟨k + 1, by omega, by go_num, hJ3, hbr.trans hk3.1⟩
        case measure => simp [intOf]; omega
      · gi_wp2
        refine bodyPost_ret (results_none rfl _ _ _) rfl ?_
        exact ⟨⟨_, rfl⟩, .inr ⟨_, hP, hJx3⟩⟩
    · have e9 : (pick ps s).take k = pick ps s := List.take_of_length_le (by omega)
      rw [e9] at hJs
      obtain rfl : k = (pick ps s).length := by omega
      gi_wp2
      go_end0
      exact ⟨⟨_, rfl⟩, .inl ⟨_, rfl, hJs⟩⟩

set_option maxHeartbeats 2000000 in
set_option maxRecDepth 100000 in
theorem implPrims1 (reps : Int) (a : Option Addr) (n ca : Nat) (s : ByteArray) (w : World) :
    Calls Try.prog 71 #[.agg #[.int .i64 reps, .slice a n ca], .string s] w fun e w' => e = .returned (.func (.func 90) #[] #[.pointer (some ⟨w.heap.size, 0, none⟩), .pointer (some ⟨w.heap.size + 1, 0, none⟩)]) ∧
      w' = (w.alloc (.cells #[.int .i64 reps, .slice a n ca] 29)).alloc (.cells #[.string s] 9) := by
  go_enter Try.func71, Try.ntmps71
  go_wp2
  go_ret
  exact ⟨rfl, rfl⟩

set_option maxHeartbeats 2000000 in
set_option maxRecDepth 100000 in
theorem implPrims (reps : Int) (a : Option Addr) (ca : Nat) (ps : List (List Int)) (s : ByteArray) (w : World) (hs : s.size ≤ 1048576) (hp : ps.length ≤ 1048576) (hq : (pick ps s).length ≤ 1048576) (hr : RdP w a ps) :
    Calls Try.prog 31 #[.agg #[.int .i64 reps, .slice a ps.length ca], .string s] w fun e w' => ∃ (g c : Nat), e = .returned (.slice (some ⟨g, 0, none⟩) (pick ps s).length c) ∧
      w'.ownsRow w.heap.size 3 1 (.slice (some ⟨g, 0, none⟩) (pick ps s).length c) (pick ps s).length (Zv (pick ps s)) ∧ Below w.heap.size w w' := by
  have b0 := bel1 w (.cells #[.int .i64 reps, .slice a ps.length ca] 29)
  have s0 := slot2New w (.int .i64 reps) (.slice a ps.length ca) 29
  obtain ⟨⟨c0, c1⟩, -⟩ := id s0
  have cP := fun w => implPrims1 reps a ps.length ca s w
  go_enter Try.func31, Try.ntmps31
  go_wp2_with fail
  refine (cP _).mono ?_
  rintro e w2 ⟨rfl, rfl⟩
  go_wp2_with fail
  have e1 := (((emptyB (w.alloc (.cells #[.int .i64 reps, .slice a ps.length ca] 29)) w.heap.size (by simp)).alloc (.cells #[.int .i64 reps, .slice a ps.length ca] 29)).alloc (.cells #[.string s] 9))
  have bA := bel1 (w.alloc (.cells #[.int .i64 reps, .slice a ps.length ca] 29)) (.cells #[] 3)
  have bB := bel1 ((w.alloc (.cells #[.int .i64 reps, .slice a ps.length ca] 29)).alloc (.cells #[] 3)) (.cells #[.int .i64 reps, .slice a ps.length ca] 29)
  have bC := bel1 (((w.alloc (.cells #[.int .i64 reps, .slice a ps.length ca] 29)).alloc (.cells #[] 3)).alloc (.cells #[.int .i64 reps, .slice a ps.length ca] 29)) (.cells #[.string s] 9)
  have hB := behind (behind (behind b0 bA) bB) bC
  have s3 := (slot2New ((w.alloc (.cells #[.int .i64 reps, .slice a ps.length ca] 29)).alloc (.cells #[] 3)) (.int .i64 reps) (.slice a ps.length ca) 29).below bC
  have s4 := slot1New (((w.alloc (.cells #[.int .i64 reps, .slice a ps.length ca] 29)).alloc (.cells #[] 3)).alloc (.cells #[.int .i64 reps, .slice a ps.length ca] 29)) (.string s) 9
  simp only [World.size_alloc] at e1 s3 s4
  obtain ⟨⟨d0, d1⟩, -⟩ := id s3
  obtain ⟨d2, -⟩ := id s4
  refine (appSeq 90 _ (enters_of Try.func90 (by kernel_rfl) rfl) (pick ps s) (by omega) w.heap.size _ 0 (fun pre => pre <+: pick ps s) _ e1 (by simp; omega) (by simp) (primSeq w reps a ca ps s hs hp hq hr (w.heap.size + 1 + 1) (w.heap.size + 1 + 1 + 1) _ hB d0 d1 d2 8 (by omega))).mono ?_
  rintro e w5 ⟨g, c, rfl, ho, hb5⟩
  go_wp2
  go_ret
  exact ⟨g, c, rfl, ho, hB.trans hb5⟩

set_option maxHeartbeats 2000000 in
set_option maxRecDepth 100000 in
theorem implIsPrim (reps id : Int) (a : Option Addr) (ca : Nat) (ps : List (List Int)) (s : ByteArray) (w : World) (hs : s.size ≤ 1048576) (hp : ps.length ≤ 1048576) (hq : (pick ps s).length ≤ 1048576) (hr : RdP w a ps) :
    Calls Try.prog 35 #[.agg #[.int .i64 reps, .slice a ps.length ca], .string s, .int .i64 id] w fun e w' => e = .returned (.bool (decide (id ∈ pick ps s))) ∧ Below w.heap.size w w' := by
  refine callsIn_wide.1 (callsIn_of_wp_marks (n := 9) Try.func35 rfl trivial ?_ rfl)
  simp only [Try.ntmps35, List.size_toArray, List.length_cons, List.length_nil, Nat.reduceAdd, Nat.reduceSub, Array.replicate_succ, Array.replicate_zero, List.push_toArray, List.append_toArray, List.nil_append, List.cons_append]
  have cP := fun w => implPrims1 reps a ps.length ca s w
  have hf9 : Fence.wide.fn 71 := trivial
  have hn9 : 1 ≤ 9 := by omega
  gi_wp2_with (gi_at_call 71; refine (callsIn_wide.2 (cP _)).mono ?_; rintro e w2 ⟨rfl, rfl⟩)
  have b0 := bel1 w (.cells #[.int .i64 reps, .slice a ps.length ca] 29)
  have b1 := bel1 (w.alloc (.cells #[.int .i64 reps, .slice a ps.length ca] 29)) (.cells #[.int .i64 id] 3)
  have s1 := slot1New (w.alloc (.cells #[.int .i64 reps, .slice a ps.length ca] 29)) (.int .i64 id) 3
  generalize hw1 : (w.alloc (.cells #[.int .i64 reps, .slice a ps.length ca] 29)).alloc (.cells #[.int .i64 id] 3) = w1 at *
  have z1 : w1.heap.size = w.heap.size + 1 + 1 := by rw [← hw1]; simp
  have b2 := bel1 w1 (.cells #[.bool false] 4)
  have s2 := slot1New w1 (.bool false) 4
  have b3 := bel1 (w1.alloc (.cells #[.bool false] 4)) (.cells #[.int .i64 reps, .slice a ps.length ca] 29)
  have s3 := slot2New (w1.alloc (.cells #[.bool false] 4)) (.int .i64 reps) (.slice a ps.length ca) 29
  have b4 := bel1 ((w1.alloc (.cells #[.bool false] 4)).alloc (.cells #[.int .i64 reps, .slice a ps.length ca] 29)) (.cells #[.string s] 9)
  have s4 := slot1New ((w1.alloc (.cells #[.bool false] 4)).alloc (.cells #[.int .i64 reps, .slice a ps.length ca] 29)) (.string s) 9
  have hB := behind (behind (behind (behind b0 b1) b2) b3) b4
  have s1 := ((s1.below b2).below b3).below b4
  have s2 := (s2.below b3).below b4
  have s3 := s3.below b4
  clear b0 b1 b2 b3 b4
  simp only [World.size_alloc, z1] at s1 s2 s3 s4
  generalize hw5 : ((w1.alloc (.cells #[.bool false] 4)).alloc (.cells #[.int .i64 reps, .slice a ps.length ca] 29)).alloc (.cells #[.string s] 9) = w5 at *
  have z5 : w5.heap.size = w.heap.size + 1 + 1 + 1 + 1 + 1 := by rw [← hw5]; simp [z1]
  clear hw1 hw5
  refine wpIn_rangeFunc_ownF rfl (by omega) (gf := 90) (lb := #[.pointer (some ⟨w.heap.size + 1 + 1 + 1, 0, none⟩), .pointer (some ⟨w.heap.size + 1 + 1 + 1 + 1, 0, none⟩)]) rfl trivial (enters_of Try.func90 (by kernel_rfl) rfl)
    (primSeq w reps a ca ps s hs hp hq hr (w.heap.size + 1 + 1 + 1) (w.heap.size + 1 + 1 + 1 + 1) w5 hB s3.1.1 s3.1.2 s4.1 8 (by omega)) kpA_t (kpA_b (by omega)) (Below.refl _ _) (fun _ => rfl)
    (fun pre W => ((∀ y ∈ pre, y ≠ id) ∧ W.cell? ⟨w.heap.size + 1, 0, none⟩ = some (.int .i64 id) ∧ W.cell? ⟨w.heap.size + 1 + 1, 0, none⟩ = some (.bool false) ∧ W.frozen? ⟨w.heap.size + 1 + 1, 0, none⟩ = false) ∧ Below w.heap.size w W)
    (fun c pre W => (c = .ret ∧ id ∈ pre ∧ W.cell? ⟨w.heap.size + 1 + 1, 0, none⟩ = some (.bool true)) ∧ Below w.heap.size w W)
    (OwnFrom.and (Own.from (fun s A B row hs hg hr => ⟨hs.1, cell_kept hs.2.1 hg hr, cell_kept hs.2.2.1 hg hr, (frozen_kept hs.2.2.1 hg hr).trans hs.2.2.2⟩) _) (ownFrom_below (Nat.le_refl _) (by omega)))
    (fun c => OwnFrom.and (Own.from (fun s A B row hs hg hr => ⟨hs.1, hs.2.1, cell_kept hs.2.2 hg hr⟩) _) (ownFrom_below (Nat.le_refl _) (by omega)))
    ⟨⟨by simp, s1.1, s2.1, s2.2⟩, hB⟩
    (fun x => { tmps := #[.agg #[.int .i64 reps, .slice a ps.length ca], .string s, .int .i64 id, .pointer (some ⟨w.heap.size, 0, none⟩), undef, .pointer (some ⟨w.heap.size + 1, 0, none⟩), .pointer (some ⟨w.heap.size + 1 + 1, 0, none⟩), .int .i64 x, .agg #[.int .i64 reps, .slice a ps.length ca], .string s, .func (.func 90) #[] #[.pointer (some ⟨w.heap.size + 1 + 1 + 1, 0, none⟩), .pointer (some ⟨w.heap.size + 1 + 1 + 1 + 1, 0, none⟩)], .int .i64 x, undef, undef, undef], defers := [] }) ?assign ?body ?done ?stop
  case assign =>
    intro l x W K hK
    gi_wp2
    exact hK
  case body =>
    rintro l pre x W ⟨⟨hp, hcw, hcr, hfr⟩, hB⟩ _
    gi_wp2
    · rename_i hx
      obtain rfl : x = id := by simpa using hx
      exact ⟨KeepsOthers.setCell _ _ _, ⟨rfl, List.mem_append.2 (.inr (by simp)), World.cell?_setCell_same' _ _ _ (by rw [hcr]; rfl)⟩, hB.setCell (p := ⟨w.heap.size + 1 + 1, 0, none⟩) (by simp; omega) _⟩
    · rename_i hx
      exact ⟨KeepsOthers.refl _, kpA_refl _ _, ⟨fun y hy => (List.mem_append.1 hy).elim (hp y) (fun e e' => by simp at e; subst e; subst e'; simp at hx), hcw, hcr, hfr⟩, hB⟩
  case done =>
    rintro D ys W hD rfl ⟨⟨hne, _, hcr, hfr⟩, hB⟩ hK
    gi_wp2
    have hK' := (KeepsOthers.setCell W ⟨w.heap.size + 1 + 1, 0, none⟩ (.bool false)).same D _ hK rfl
    refine ⟨by simp, .inl ⟨_, _, rfl, run_takeDeferred hK', ?_⟩⟩
    have hc5 := cell_kept (World.cell?_setCell_same' W ⟨w.heap.size + 1 + 1, 0, none⟩ (.bool false) (by rw [hcr]; rfl)) (grownBy_putObj' _ D (.deferred none)) (fun r e => by cases e; exact ⟨_, hK', rfl⟩)
    refine ⟨.bool false, ?_, by rw [decide_eq_false (fun h => hne id h rfl)], (hB.setCell (p := ⟨w.heap.size + 1 + 1, 0, none⟩) (by simp; omega) _).trans (belowK_b (w := w) (Nat.le_refl _) _ D _ _ (by omega) hK' rfl rfl)⟩
    simp [results, Try.f35, go_sem, hc5]
  case stop =>
    rintro D c pre W hD hpre ⟨⟨rfl, hin, hcr⟩, hB⟩ hK
    gi_wp2
    refine ⟨by simp, .inl ⟨_, _, rfl, run_takeDeferred hK, ?_⟩⟩
    have hc5 := cell_kept hcr (grownBy_putObj' _ D (.deferred none)) (fun r e => by cases e; exact ⟨_, hK, rfl⟩)
    refine ⟨.bool true, ?_, by rw [decide_eq_true (hpre.subset hin)], hB.trans (belowK_b (w := w) (Nat.le_refl _) W D _ _ (by omega) hK rfl rfl)⟩
    simp [results, Try.f35, go_sem, hc5]
end Go.Proofs.Ytcejeiakgmamdac.Wk

namespace Go.Proofs.Ytcejeiakgmamdac.Wk
set_option linter.unusedVariables false
open Go.ChangeShapes Go.WideShapes Go.ChangeAt Go.RowKit Go.Maps

theorem infoX' : ∃ i0 : TypeInfo, Try.prog.info? 78 = some i0 ∧ i0.zero = some (.pointer none) ∧ i0.size = 1 ∧ i0.bytes = 8 := info_parts infoX

set_option maxHeartbeats 2000000 in
set_option maxRecDepth 100000 in
theorem growNil (n : Nat) (w : World) (hn : n ≤ 2097152) :
    Calls Try.prog 102 #[.slice none 0 0, .int .i64 (n : Int)] w fun e w' => ∃ (a : Option Addr) (c : Nat), e = .returned (.slice a 0 c) ∧ w'.ownsRow w.heap.size 78 1 (.slice a 0 c) 0 [] ∧ Below w.heap.size w w' := by
  obtain ⟨i0, hif, hz0, hz1, hz2⟩ := infoX'
  have h0 : ¬ ((n : Int) < 0) := by omega
  have hw0 : wrap64 (n : Int) = n := by unfold wrap64; omega
  by_cases hn0 : 0 < n
  · have h1 : (0 : Int) < (n : Int) := by omega
    have hold : (Builtin.firstCells i0.size 0 (.slice none 0 0)).run Try.prog w.drew = .ok ([] : List Value).toArray w.drew := run_firstCells_none w.drew i0.size 0 0 0
    have hr := Lib.run_append_grow_zeros w 80 3 80 78 i0 (.pointer none) .i64 .i64 Try.underlying80 Try.underlying3 hif hz0 none 0 0 [] hold n hn0 (by omega) (by omega) (by omega) (by rw [hz2]; omega) (by rw [Nat.zero_add, hz2]; exact growslice_fits (by omega) (by omega))
    rw [Nat.zero_add] at hr
    have hG := grownCap_ge w n 0 78
    have hG2 := grownCap_le_maxLen w n 0 78 (by unfold maxLen; omega)
    have hown : (w.drew.alloc (.cells (([] : List Value).toArray ++ Builtin.zeroCells (Value.pointer none).cells n ++ Builtin.zeroCells (Value.pointer none).cells (grownCap w n 0 78 - n)) 78)).ownsRow w.heap.size 78 1 (.slice (some ⟨w.heap.size, 0, none⟩) 0 (grownCap w n 0 78)) 0 [] :=
      World.ownsRow_made w.drew _ _ (Nat.le_refl _) hG2 (by simp [size_zeroCells, Value.cells]; omega)
    have hB : Below w.heap.size w (w.drew.alloc (.cells (([] : List Value).toArray ++ Builtin.zeroCells (Value.pointer none).cells n ++ Builtin.zeroCells (Value.pointer none).cells (grownCap w n 0 78 - n)) 78)) := (Below.refl _ w).drew.alloc (Nat.le_refl _) _
    generalize w.drew.alloc (.cells (([] : List Value).toArray ++ Builtin.zeroCells (Value.pointer none).cells n ++ Builtin.zeroCells (Value.pointer none).cells (grownCap w n 0 78 - n)) 78) = w5 at *
    generalize grownCap w n 0 78 = G at *
    unfold maxLen at hG2
    have hGn : (n : Int) ≤ (G : Int) := by omega
    have hG0 : (0 : Int) ≤ (G : Int) := by omega
    clear hold
    go_enter Try.func102, Try.ntmps102
    go_wp2_with (at_builtin; refine Lib.wpList_append_run _ rfl _ _ _ _ rfl _ _ rfl rfl _ _ hr ?_)
    all_goals (go_ret; exact ⟨_, _, rfl, hown, hB⟩)
  · obtain rfl : n = 0 := by omega
    go_enter Try.func102, Try.ntmps102
    go_wp2
    go_ret
    exact ⟨none, 0, rfl, World.ownsRow_nil _ _ _ _, Below.refl _ _⟩
/-- a row of pointers put behind a row of one's own, whether it is nil or not -/
theorem wpList_appRow (w : World) {ops : Array Oper} {rest : List Oper} {o : Oper} {a : Act} {Q : Exit → Act → World → Prop} (hgd : o.guard = none) (s x : Operand)
    (ho : o.op = .call { callee := .builtin .append, args := #[s, x], argTypes := #[80, 80] })
    (base : Nat) (v : Value) (n : Nat) (xs : List Value) (hs : a.eval s = v) (hown : w.ownsRow base 78 1 v n xs) (b2 : Nat) (u : Value) (m : Nat) (ys : List Value) (hx : a.eval x = u) (hsrc : w.ownsRow b2 78 1 u m ys) (h1 : ∀ y ∈ ys, y.oneCell' = true)
    (hl : n + m ≤ 4194304) (hbase : base ≤ w.heap.size)
    (h : ∀ v' w', w'.ownsRow base 78 1 v' (n + m) (xs ++ ys) → w.grownBy w' v.ownBlock → wpList Try.prog ops Q rest (a.put o.dst v') w') : wpList Try.prog ops Q (o :: rest) a w := by
  obtain ⟨i0, hif, hz0, hz1, hz2⟩ := infoX'
  have hcs := fun (g : Nat) (e : u.ownBlock = some g) => World.ownsRow.cells hsrc e
  have hlen := hsrc.1
  rcases hsrc.2 with ⟨rfl, rfl⟩ | ⟨g, cap, cur, rfl, -⟩
  · have hy : ys = [] := List.eq_nil_of_length_eq_zero (by simpa using hlen)
    subst hy
    have hrun := run_append_owned_none (P := Try.prog) (w := w) base 80 o.type 78 i0 1 Try.underlying80 hif v n xs hown
    exact Lib.wpList_append_run w hgd s x _ _ ho _ _ hs hx _ _ hrun (h v w (by rw [List.append_nil]; exact hown) ⟨rfl, rfl, rfl, Nat.le_refl _, fun _ _ _ => rfl⟩)
  · exact wpList_append_own w hgd s x 80 ho base 78 i0 (.pointer none) 1 8 Try.underlying80 hif hz0 hz1 hz2 rfl (by decide) v n xs hs hown ⟨g, 0, none⟩ m cap ys hx hlen (hcs g rfl) h1 (by unfold maxLen; omega) (by omega) hbase fun v' w' h2 h3 _ => h v' w' h2 h3
theorem Pv_one (b : Nat) (L : List (Nat × Sm.St)) : ∀ y ∈ Pv b L, y.oneCell' = true := by
  intro y hy
  obtain ⟨x, -, rfl⟩ := List.mem_map.1 hy
  rfl
theorem Pv_app (b : Nat) (L M : List (Nat × Sm.St)) : Pv b (L ++ M) = Pv b L ++ Pv b M := by simp [Pv]

set_option maxHeartbeats 4000000 in
set_option maxRecDepth 100000 in
theorem concatI (h cap n m cu cv bu bl : Nat) (au av : Option Addr) (A O : List (Nat × Sm.St)) (w : World) (hn : A.length = n) (hm : O.length = m) (hn1 : n ≤ 1048576) (hm1 : m ≤ 1048576) (hc0 : w.cell? ⟨h, 0, none⟩ = some (.slice au n cu)) (hc1 : w.cell? ⟨h, 1, none⟩ = some (.slice av m cv))
    (hu : w.ownsRow bu 78 1 (.slice au n cu) n (Pv bl A)) (hv : w.ownsRow bu 78 1 (.slice av m cv) m (Pv bl O)) :
    Calls Try.prog 93 #[.slice (some ⟨h, 0, none⟩) 2 cap] w fun e w' => ∃ (a : Option Addr) (c : Nat), e = .returned (.slice a (n + m) c) ∧ w'.ownsRow w.heap.size 78 1 (.slice a (n + m) c) (n + m) (Pv bl (A ++ O)) ∧ Below w.heap.size w w' := by
  have hw1 : wrap64 (0 + (n : Int)) = n := by unfold wrap64; omega
  have hw2 : wrap64 ((n : Int) + (m : Int)) = ((n + m : Nat) : Int) := by unfold wrap64; omega
  have hp1 : ¬ ((n : Int) < 0) := by omega
  have hp2 : ¬ (((n + m : Nat) : Int) < 0) := by omega
  go_enter Try.func93, Try.ntmps93
  go_wp2
  go_loop [3, 11] (fun q i => (q = .int .i64 0 ∧ i = .int .i64 0) ∨ (q = .int .i64 (n : Int) ∧ i = .int .i64 1) ∨ (q = .int .i64 ((n + m : Nat) : Int) ∧ i = .int .i64 2)) (fun _ i => 2 - (intOf i).toNat)
  case atStart => exact .inl ⟨rfl, rfl⟩
  case round =>
    obtain ⟨rfl, rfl⟩ | ⟨rfl, rfl⟩ | ⟨rfl, rfl⟩ := hrel
    · go_wp2
      go_round
      case rel => exact .inr (.inl ⟨by go_num, rfl⟩)
      case measure => simp [intOf]
    · go_wp2
      go_round
      case rel => exact .inr (.inr ⟨by go_num, rfl⟩)
      case measure => simp [intOf]
    · go_wp2_with fail
      refine (growNil (n + m) w (by omega)).mono ?_
      rintro e w2 ⟨a2, c2, rfl, ho2, hb2⟩
      go_wp2_with fail
      go_loopw [6, 27] (fun v i wr => ((i = .int .i64 0 ∧ wr.ownsRow w.heap.size 78 1 v 0 []) ∨ (i = .int .i64 1 ∧ wr.ownsRow w.heap.size 78 1 v n (Pv bl A)) ∨ (i = .int .i64 2 ∧ wr.ownsRow w.heap.size 78 1 v (n + m) (Pv bl (A ++ O)))) ∧ Below w.heap.size w wr) (fun _ i _ => 2 - (intOf i).toNat)
      case atStart => exact ⟨.inl ⟨rfl, ho2⟩, hb2⟩
      case round =>
      obtain ⟨⟨rfl, ho⟩ | ⟨rfl, ho⟩ | ⟨rfl, ho⟩, hb⟩ := hrel
      · obtain ⟨a5, c5, rfl⟩ := Zv_shape ho
        have hu' := ownOn hu hb
        have hc' := cellOn hc0 hb
        go_wp2_with (at_builtin; refine wpList_appRow _ rfl _ _ rfl w.heap.size _ _ _ rfl ho bu _ _ _ rfl hu' (Pv_one _ _) (by omega) hb.size ?_; intro v6 w6 hown6 hgrow6)
        have hb6 := grownOwnX hb ho hgrow6 hb.size
        obtain ⟨a6, c6, rfl⟩ := Zv_shape hown6
        rw [Nat.zero_add, List.nil_append] at hown6
        go_wp2
        go_roundw
        case rel => exact ⟨.inr (.inl ⟨rfl, by rw [Nat.zero_add]; exact hown6⟩), hb6⟩
        case measure => simp [intOf]
      · obtain ⟨a5, c5, rfl⟩ := Zv_shape ho
        have hu' := ownOn hv hb
        have hc' := cellOn hc1 hb
        go_wp2_with (at_builtin; refine wpList_appRow _ rfl _ _ rfl w.heap.size _ _ _ rfl ho bu _ _ _ rfl hu' (Pv_one _ _) (by omega) hb.size ?_; intro v6 w6 hown6 hgrow6)
        have hb6 := grownOwnX hb ho hgrow6 hb.size
        obtain ⟨a6, c6, rfl⟩ := Zv_shape hown6
        rw [← Pv_app] at hown6
        go_wp2
        go_roundw
        case rel => exact ⟨.inr (.inr ⟨rfl, hown6⟩), hb6⟩
        case measure => simp [intOf]
      · obtain ⟨a5, c5, rfl⟩ := Zv_shape ho
        go_wp2
        go_ret
        exact ⟨a5, c5, rfl, ho, hb⟩
end Go.Proofs.Ytcejeiakgmamdac.Wk

namespace Go.Proofs.Ytcejeiakgmamdac.Wk
set_option linter.unusedVariables false
open Go.ChangeShapes Go.WideShapes Go.ChangeAt Go.RowKit Go.Maps

attribute [local go_sem] Oper.semAt_some

set_option maxHeartbeats 4000000 in
set_option maxRecDepth 100000 in
theorem otherNil (b c : Option Addr) (cb cc : Nat) (p : List Int) (w : World) (hp : p.length ≤ 1048576) (hrp : RdZ w b p) :
    Calls Try.prog 80 #[.agg #[.slice b p.length cb], .slice c 0 cc] w fun e w' => e = .returned (.tuple #[.slice none 0 0, .slice none 0 0]) ∧ Below w.heap.size w w' := by
  have s0 := slot1New w (.slice b p.length cb) 36
  have hB0 := bel1 w (.cells #[.slice b p.length cb] 36)
  have cP := fun (w' : World) h1 => implPz b c cb cc p [] w' hp (by simp) h1 (fun i hi => by simp at hi) (by simp)
  go_enter Try.func80, Try.ntmps80
  go_wp2_with fail
  refine (cP _ (hrp.below hB0)).mono ?_
  rintro e w1 ⟨D, rfl, -, -, hb1⟩
  have hB1 := behind hB0 hb1
  go_wp2
  go_loopw [4, 5, 14] (fun u v i wr => u = .slice none 0 0 ∧ v = .slice none 0 0 ∧ i = .int .i64 0 ∧ wr = w1) (fun _ _ _ _ => 0)
  case atStart => exact ⟨rfl, rfl, rfl, rfl⟩
  case round =>
    obtain ⟨rfl, rfl, rfl, rfl⟩ := hrel
    go_wp2
    go_ret2
    exact ⟨rfl, hB1⟩

theorem otherAny (b c : Option Addr) (cb cc : Nat) (p : List Int) (l : List Sm.St) (w : World) (hp : p.length ≤ 1048576) (hl : l.length ≤ 1048576) (hrp : RdZ w b p) (hrl : RdS w c l) (w0 : World) (hrl0 : RdS w0 c l) (hwf : ∀ d ∈ l, (Lit.int .i64 d.2.1).wf = true) :
    Calls Try.prog 80 #[.agg #[.slice b p.length cb], .slice c l.length cc] w fun e w' => ∃ (bl : Nat) (A O : List (Nat × Sm.St)) (au av : Option Addr) (cu cv : Nat), e = .returned (.tuple #[.slice au A.length cu, .slice av O.length cv]) ∧
      w'.ownsRow w.heap.size 78 1 (.slice au A.length cu) A.length (Pv bl A) ∧ w'.ownsRow w.heap.size 78 1 (.slice av O.length cv) O.length (Pv bl O) ∧
      (A ++ O).map (fun x => x.2.1) = hand p l ∧ Led w0 bl (A ++ O) ∧ A.length ≤ l.length ∧ O.length ≤ l.length ∧ Below w.heap.size w w' := by
  by_cases h0 : 1 ≤ l.length
  · refine (otherI b c cb cc p l w hp h0 hl hrp hrl w0 hrl0 hwf).mono ?_
    rintro e w1 ⟨bl, A, O, au, av, cu, cv, rfl, hu, hv, hA, hO, hLA, hLO, h1, h2, hb⟩
    refine ⟨bl, A, O, au, av, cu, cv, rfl, hu, hv, ?_, ?_, h1, h2, hb⟩
    · unfold hand
      rw [← hA, ← hO, ← List.map_append, List.map_map]
      rfl
    · intro x hx
      rcases List.mem_append.1 hx with hx | hx
      · exact hLA x hx
      · exact hLO x hx
  · obtain rfl : l = [] := by cases l with | nil => rfl | cons x r => simp at h0
    refine (otherNil b c cb cc p w hp hrp).mono ?_
    rintro e w1 ⟨rfl, hb⟩
    exact ⟨0, [], [], none, none, 0, 0, rfl, World.ownsRow_nil _ _ _ _, World.ownsRow_nil _ _ _ _, rfl, Led.nil, Nat.le_refl _, Nat.le_refl _, hb⟩

theorem kpA_own {n₀ base n : Nat} {W W' : World} {v : Value} {xs : List Value} (h : KpA n₀ W W') (ho : W.ownsRow base 78 1 v n xs) : W'.ownsRow base 78 1 v n xs := by
  refine ⟨ho.1, ?_⟩
  rcases ho.2 with e | ⟨g, cap, cur, e, hb, hg, r⟩
  · exact .inl e
  · exact .inr ⟨g, cap, cur, e, hb, h.2 g cur 78 (0, 0) (by decide) (by decide) hg, r⟩

set_option maxHeartbeats 4000000 in
set_option maxRecDepth 100000 in
theorem handSeq (wz : World) (reps : Int) (a c : Option Addr) (ca cc : Nat) (ps : List (List Int)) (s : ByteArray) (l : List Sm.St) (hs : s.size ≤ 1048576) (hp : ps.length ≤ 1048576) (hq : (pick ps s).length ≤ 1048576) (hl : l.length ≤ 1048576) (hr : RdP wz a ps) (hrl : RdS wz c l) (hwf : ∀ d ∈ l, (Lit.int .i64 d.2.1).wf = true)
    (Br Bs Bl : Nat) (w : World) (hb : Below wz.heap.size wz w) (h0 : w.cell? ⟨Br, 0, none⟩ = some (.int .i64 reps)) (h1 : w.cell? ⟨Br, 1, none⟩ = some (.slice a ps.length ca)) (h2 : w.cell? ⟨Bs, 0, none⟩ = some (.string s)) (h3 : w.cell? ⟨Bl, 0, none⟩ = some (.slice c l.length cc)) (n : Nat) (hn : 2 ≤ n) :
    SeqStopsK Fence.wide n Try.prog 92 #[.pointer (some ⟨Br, 0, none⟩), .pointer (some ⟨Bs, 0, none⟩), .pointer (some ⟨Bl, 0, none⟩)] (fun x : Int => #[.int .i64 x]) (KpA wz.heap.size) (fun ys => ys = hand (pick ps s) l) (fun pre => pre <+: hand (pick ps s) l) (hand (pick ps s) l).length w := by
  intro lo J Jx W hW hJ hJx hY hJ0
  have c0 := cellOn h0 hW
  have c1 := cellOn h1 hW
  have c2 := cellOn h2 hW
  have c3 := cellOn h3 hW
  have hbW : Below wz.heap.size wz W := hb.trans (hW.mono hb.size)
  have cF := implFor wz reps a ca ps s W.drew hs hp hbW.drew hr
  have cO := fun (ai : Option Addr) (ci : Nat) (w' : World) (h1 : RdZ w' ai (pick ps s)) (h2 : RdS w' c l) => otherAny ai c ci cc (pick ps s) l w' hq hl h1 h2 wz hrl hwf
  generalize pick ps s = p at *
  generalize hand p l = H at *
  refine callsIn_of_wp (F := Fence.wide) Try.func92 rfl trivial ?_ rfl
  simp only [Try.ntmps92, List.size_toArray, List.length_cons, List.length_nil, Nat.reduceAdd, Nat.reduceSub, Array.replicate_succ, Array.replicate_zero, List.push_toArray, List.append_toArray, List.nil_append, List.cons_append]
  gi_wp2_with fail
  refine wpIn_wide.2 ?_
  go_region_held3 (fun wy => wy.cell? ⟨Br, 0, none⟩ = some (.int .i64 reps) ∧ wy.cell? ⟨Br, 1, none⟩ = some (.slice a ps.length ca) ∧ wy.cell? ⟨Bs, 0, none⟩ = some (.string s) ∧ wy.cell? ⟨Bl, 0, none⟩ = some (.slice c l.length cc))
    (first | exact ⟨c0, c1, c2, c3⟩ | exact keepR4 ‹_› ‹_› | go_keep)
    (first | (go_at_call 91; refine cF.mono ?_; rintro e w2 ⟨ai, ci, rfl, hz, hb2⟩) | (go_at_call 80; refine (cO ai ci _ (by exact hz.below (behind hbW.drew hb2)) (by exact hrl.below (behind hbW.drew hb2))).mono ?_; rintro e w3 ⟨bl, A, O, au, av, cu, cv, rfl, hu, hv, hA, hLed, hA1, hO1, hb3⟩) | fail)
  have hB3 := behind (w := W) (behind (Below.refl _ W).drew hb2) hb3
  have s4 := slot2New w3 (.slice au A.length cu) (.slice av O.length cv) 80
  have b4 := bel1 w3 (.cells #[.slice au A.length cu, .slice av O.length cv] 80)
  have hu4 := ownOn hu b4
  have hv4 := ownOn hv b4
  have hB4 := behind hB3 b4
  have cC := concatI w3.heap.size 2 A.length O.length cu cv w2.heap.size bl au av A O _ rfl rfl (by omega) (by omega) s4.1.1 s4.1.2 hu4 hv4
  rw [← List.length_append] at cC
  have hlen : (A ++ O).length ≤ 2097152 := by rw [List.length_append]; omega
  have hHl : H.length = (A ++ O).length := by rw [← hA, List.length_map]
  generalize A ++ O = L at cC hA hLed hlen hHl
  clear hu hv hu4 hv4 s4 cO cF c0 c1 c2 c3 h0 h1 h2 h3 hA1 hO1 b4
  have hn1 : 1 ≤ n := by omega
  have hf9 : Fence.wide.fn 93 := trivial
  gi_wp2_with (gi_at_call 93; refine (callsIn_wide.2 cC).mono ?_; rintro e w5 ⟨a5, c5, rfl, ho, hb5⟩)
  have hB5 := behind hB4 hb5
  have hJ5 : J [] w5 := hJ [] W w5 none hJ0 ⟨hB5.os, hB5.tape, hB5.output, hB5.size, fun k hk _ => hB5.block k hk⟩ (fun r e => by cases e)
  have hbz := behind hbW hB5
  generalize (w3.alloc (.cells #[.slice au A.length cu, .slice av O.length cv] 80)).heap.size = B at ho
  clear hb5 hB5 hB4 hb2 hb3 hB3 hW hJ0 hb hq
  gi_loopw [22] (fun i wr => ∃ k : Nat, k ≤ L.length ∧ i = .int .i64 k ∧ J (H.take k) wr ∧ Below wz.heap.size wz wr ∧ wr.ownsRow B 78 1 (.slice a5 L.length c5) L.length (Pv bl L))
    (fun i _ => L.length - (intOf i).toNat)
  case atStart => exact ⟨0, Nat.zero_le _, rfl, hJ5, hbz, ho⟩
  case round =>
    obtain ⟨k, hk, rfl, hJs, hbr, hor⟩ := hrel
    by_cases hlt : k < L.length
    · obtain ⟨g, off, rfl, hc⟩ := (Pv_rd hor) k hlt
      obtain ⟨y0, -⟩ := hLed.below hbr _ (List.getElem_mem hlt)
      have hkH : k < H.length := by omega
      have hx : H[k] = L[k].2.1 := by
        have : H[k] = (L.map (fun x => x.2.1))[k]'(by simpa using hlt) := by congr 1; exact hA.symm
        rw [this, List.getElem_map]
      have hlt' : (k : Int) < (L.length : Int) := by omega
      have hT : H.take (k + 1) = H.take k ++ [L[k].2.1] := by rw [List.take_succ_eq_append_getElem hkH, hx]
      have hP : H.take (k + 1) <+: H := List.take_prefix _ _
      obtain ⟨fn, tmps, assign, body, hy, hR⟩ := hY _ L[k].2.1 wr hJs (by rw [List.length_take]; omega)
      rw [← hT] at hR
      clear hT hx
      generalize L[k] = d at hc y0 hy hR
      obtain ⟨o, i, z, q⟩ := d
      dsimp only at hy hc y0 hR
      gi_wp2
      refine hR.mono ?_
      rintro e W3 (⟨rfl, hJ3, hk3⟩ | ⟨rfl, hJx3⟩)
      · gi_wp2
        go_roundw
        case rel => exact ⟨k + 1, by omega, by go_num, hJ3, hbr.trans hk3.1, kpA_own hk3 hor⟩
        case measure => simp [intOf]; omega
      · gi_wp2
        refine bodyPost_ret (results_none rfl _ _ _) rfl ?_
        exact ⟨⟨_, rfl⟩, .inr ⟨_, hP, hJx3⟩⟩
    · have e9 : H.take k = H := List.take_of_length_le (by omega)
      rw [e9] at hJs
      obtain rfl : k = L.length := by omega
      gi_wp2
      go_end0
      exact ⟨⟨_, rfl⟩, .inl ⟨_, rfl, hJs⟩⟩

set_option maxHeartbeats 2000000 in
set_option maxRecDepth 100000 in
theorem implHands1 (reps : Int) (a c : Option Addr) (n ca m cc : Nat) (s : ByteArray) (w : World) :
    Calls Try.prog 72 #[.agg #[.int .i64 reps, .slice a n ca], .slice c m cc, .string s] w fun e w' => e = .returned (.func (.func 92) #[] #[.pointer (some ⟨w.heap.size, 0, none⟩), .pointer (some ⟨w.heap.size + 1 + 1, 0, none⟩), .pointer (some ⟨w.heap.size + 1, 0, none⟩)]) ∧
      w' = ((w.alloc (.cells #[.int .i64 reps, .slice a n ca] 29)).alloc (.cells #[.slice c m cc] 24)).alloc (.cells #[.string s] 9) := by
  go_enter Try.func72, Try.ntmps72
  go_wp2
  go_ret
  exact ⟨rfl, rfl⟩

set_option maxHeartbeats 2000000 in
set_option maxRecDepth 100000 in
theorem implHands (reps : Int) (a c : Option Addr) (ca cc : Nat) (ps : List (List Int)) (s : ByteArray) (l : List Sm.St) (w : World) (hs : s.size ≤ 1048576) (hp : ps.length ≤ 1048576) (hq : (pick ps s).length ≤ 1048576) (hl : l.length ≤ 1048576) (hr : RdP w a ps) (hrl : RdS w c l) (hwf : ∀ d ∈ l, (Lit.int .i64 d.2.1).wf = true) :
    Calls Try.prog 32 #[.agg #[.int .i64 reps, .slice a ps.length ca], .slice c l.length cc, .string s] w fun e w' => ∃ (g q : Nat), e = .returned (.slice (some ⟨g, 0, none⟩) (hand (pick ps s) l).length q) ∧
      w'.ownsRow w.heap.size 3 1 (.slice (some ⟨g, 0, none⟩) (hand (pick ps s) l).length q) (hand (pick ps s) l).length (Zv (hand (pick ps s) l)) ∧ Below w.heap.size w w' := by
  have hHl := hand_len (pick ps s) l
  have b0 := bel1 w (.cells #[.int .i64 reps, .slice a ps.length ca] 29)
  have s0 := slot2New w (.int .i64 reps) (.slice a ps.length ca) 29
  obtain ⟨⟨c0, c1⟩, -⟩ := id s0
  have cP := fun w => implHands1 reps a c ps.length ca l.length cc s w
  go_enter Try.func32, Try.ntmps32
  go_wp2_with fail
  refine (cP _).mono ?_
  rintro e w2 ⟨rfl, rfl⟩
  go_wp2_with fail
  have e1 := (((emptyB (w.alloc (.cells #[.int .i64 reps, .slice a ps.length ca] 29)) w.heap.size (by simp)).alloc (.cells #[.int .i64 reps, .slice a ps.length ca] 29)).alloc (.cells #[.slice c l.length cc] 24)).alloc (.cells #[.string s] 9)
  have bA := bel1 (w.alloc (.cells #[.int .i64 reps, .slice a ps.length ca] 29)) (.cells #[] 3)
  have bB := bel1 ((w.alloc (.cells #[.int .i64 reps, .slice a ps.length ca] 29)).alloc (.cells #[] 3)) (.cells #[.int .i64 reps, .slice a ps.length ca] 29)
  have s3 := slot2New ((w.alloc (.cells #[.int .i64 reps, .slice a ps.length ca] 29)).alloc (.cells #[] 3)) (.int .i64 reps) (.slice a ps.length ca) 29
  have hB := behind (behind b0 bA) bB
  simp only [World.size_alloc] at e1 s3
  have z3 : (((w.alloc (.cells #[.int .i64 reps, .slice a ps.length ca] 29)).alloc (.cells #[] 3)).alloc (.cells #[.int .i64 reps, .slice a ps.length ca] 29)).heap.size = w.heap.size + 1 + 1 + 1 := by simp
  generalize ((w.alloc (.cells #[.int .i64 reps, .slice a ps.length ca] 29)).alloc (.cells #[] 3)).alloc (.cells #[.int .i64 reps, .slice a ps.length ca] 29) = w3 at *
  have bC := bel1 w3 (.cells #[.slice c l.length cc] 24)
  have s4 := slot1New w3 (.slice c l.length cc) 24
  have bD := bel1 (w3.alloc (.cells #[.slice c l.length cc] 24)) (.cells #[.string s] 9)
  have s5 := slot1New (w3.alloc (.cells #[.slice c l.length cc] 24)) (.string s) 9
  have hB := behind (behind hB bC) bD
  have s3 := (s3.below bC).below bD
  have s4 := s4.below bD
  simp only [World.size_alloc, z3] at s4 s5
  obtain ⟨⟨d0, d1⟩, -⟩ := id s3
  obtain ⟨d2, -⟩ := id s4
  obtain ⟨d3, -⟩ := id s5
  clear z3 bA bB bC bD s3 s4 s5
  refine (appSeq 92 _ (enters_of Try.func92 (by kernel_rfl) rfl) (hand (pick ps s) l) (by omega) w.heap.size _ 0 (fun pre => pre <+: hand (pick ps s) l) _ e1 hB.size (by simp) (handSeq w reps a c ca cc ps s l hs hp hq hl hr hrl hwf (w.heap.size + 1 + 1) (w.heap.size + 1 + 1 + 1 + 1) (w.heap.size + 1 + 1 + 1) _ hB d0 d1 d3 d2 8 (by omega))).mono ?_
  rintro e w6 ⟨g, q, rfl, ho, hb6⟩
  go_wp2
  go_ret
  exact ⟨g, q, rfl, ho, hB.trans hb6⟩
end Go.Proofs.Ytcejeiakgmamdac.Wk

namespace Go.Proofs.Ytcejeiakgmamdac.Wk
set_option linter.unusedVariables false
open Go.ChangeShapes Go.WideShapes Go.ChangeAt Go.RowKit

set_option maxHeartbeats 2000000 in
set_option maxRecDepth 100000 in
theorem specPrims (reps : Int) (a : Option Addr) (ca : Nat) (ps : List (List Int)) (s : ByteArray) (w : World) (hs : s.size ≤ 1048576) (hp : ps.length ≤ 1048576) (hq : (pick ps s).length ≤ 1048576) (hr : RdN w a ps) :
    Calls Try.prog 33 #[.agg #[.int .i64 reps, .slice a ps.length ca], .string s] w fun e w' => ∃ (a' : Option Addr) (c : Nat), e = .returned (.slice a' (pick ps s).length c) ∧
      w'.ownsRow w.heap.size 3 1 (.slice a' (pick ps s).length c) (pick ps s).length (Zv (pick ps s)) ∧ Below w.heap.size w w' := by
  have b0 := bel1 w (.cells #[.int .i64 reps, .slice a ps.length ca] 29)
  have s0 := slot2New w (.int .i64 reps) (.slice a ps.length ca) 29
  have hr1 := hr.below b0
  by_cases h : 0 < ps.length
  · obtain ⟨k, hk, hpn, hpk⟩ := pick_at s h
    have cP := fun (w' : World) => specPart s ps.length w' hs
    rw [hpn] at cP
    obtain ⟨b, off, ai, ci, rfl, q0, q1, -, q2⟩ := hr1 k hk
    rw [← hpk] at q0 q1
    clear hpk hpn hr hr1
    have hk1 : (k : Int) < (ps.length : Int) := by omega
    have hk0 : (0 : Int) ≤ (k : Int) := by omega
    have h' : ¬ ((ps.length : Int) = 0) := by omega
    generalize pick ps s = Q at *
    have z1 : (w.alloc (.cells #[.int .i64 reps, .slice (some ⟨b, off, none⟩) ps.length ca] 29)).heap.size ≥ w.heap.size + 1 := by simp
    go_enter Try.func33, Try.ntmps33
    go_wp2_with fail
    generalize w.alloc (.cells #[.int .i64 reps, .slice (some ⟨b, off, none⟩) ps.length ca] 29) = w1 at *
    have hbl : b ≠ w1.heap.size := by have := World.block_lt_of_cell? w1 _ q0; simp at this; omega
    have hsl : w.heap.size ≠ w1.heap.size := by omega
    obtain ⟨⟨c0, c1⟩, -⟩ := id s0
    have bE := bel1 w1 (.cells #[] 3)
    have e0 := emptyB w1 w.heap.size (by omega)
    have c1E := cellOn c1 bE
    have q0E := cellOn q0 bE
    have q1E := q1.below bE
    have bK : ∀ w8, (w1.alloc (.cells #[] 3)).grownBy w8 (some w1.heap.size) → Below w.heap.size w w8 := fun w8 h => (behind b0 bE).grown h (by simp; omega) (fun j e => by cases e; omega)
    go_region_held3 (fun wy => wy.cell? ⟨w.heap.size, 1, none⟩ = some (.slice (some ⟨b, off, none⟩) ps.length ca) ∧ wy.cell? ⟨b, off + k, none⟩ = some (.slice ai Q.length ci))
      (first | with_reducible exact ⟨c1, q0⟩ | with_reducible exact ⟨c1E, q0E⟩ | with_reducible exact ⟨c18, q08⟩ | go_keep)
      (first | (go_at_call 73; refine (cP _).mono ?_; rintro e _ ⟨rfl, rfl⟩) | (refine step_appZ _ (by rfl) (.tmp 10) (.tmp 20) (by rfl) w.heap.size (.slice (some ⟨w1.heap.size, 0, none⟩) 0 0) [] (by rfl) (by exact e0) ai ci Q (by rfl) (by exact q1E) q2 (by simp; omega) (by simp; omega) ?_; intro v8 w8 hown8 hgrow8; have c18 : w8.cell? ⟨w.heap.size, 1, none⟩ = some (.slice (some ⟨b, off, none⟩) ps.length ca) := hgrow8.cell c1E (by simpa [Value.ownBlock] using hsl); have q08 : w8.cell? ⟨b, off + k, none⟩ = some (.slice ai Q.length ci) := hgrow8.cell q0E (by simpa [Value.ownBlock] using hbl); have hg8 : (w1.alloc (.cells #[] 3)).grownBy w8 (some w1.heap.size) := ⟨hgrow8.os, hgrow8.tape, hgrow8.output, hgrow8.size, hgrow8.block⟩; have hb8 := bK w8 hg8) | fail)
    all_goals
      obtain ⟨a8, c8, rfl⟩ := Zv_shape hown8
      go_wp2
      go_ret
      exact ⟨a8, c8, rfl, hown8, hb8⟩
  · obtain rfl : ps = [] := by cases ps with | nil => rfl | cons x r => simp at h
    rw [pick_nil]
    obtain ⟨⟨c0, c1⟩, -⟩ := id s0
    have e0 := emptyB (w.alloc (.cells #[.int .i64 reps, .slice a 0 ca] 29)) w.heap.size (by simp)
    have bE := bel1 (w.alloc (.cells #[.int .i64 reps, .slice a 0 ca] 29)) (.cells #[] 3)
    simp only [World.size_alloc] at e0
    go_enter Try.func33, Try.ntmps33
    go_wp2
    go_ret
    exact ⟨_, 0, rfl, e0, behind b0 bE⟩

end Go.Proofs.Ytcejeiakgmamdac.Wk

namespace Go.Proofs.Ytcejeiakgmamdac.Wk
set_option linter.unusedVariables false
open Go.ChangeShapes Go.WideShapes Go.ChangeAt Go.RowKit

set_option maxHeartbeats 4000000 in
set_option maxRecDepth 100000 in
theorem specHand (reps : Int) (a c : Option Addr) (ca cc : Nat) (ps : List (List Int)) (s : ByteArray) (l : List Sm.St) (w : World) (hs : s.size ≤ 1048576) (hp : ps.length ≤ 1048576) (hq : (pick ps s).length ≤ 1048576) (hl : l.length ≤ 1048576) (hr : RdN w a ps) (hrl : RdS w c l) :
    Calls Try.prog 34 #[.agg #[.int .i64 reps, .slice a ps.length ca], .slice c l.length cc, .string s] w fun e w' => ∃ (a' : Option Addr) (cp : Nat), e = .returned (.slice a' (hand (pick ps s) l).length cp) ∧
      w'.ownsRow w.heap.size 3 1 (.slice a' (hand (pick ps s) l).length cp) (hand (pick ps s) l).length (Zv (hand (pick ps s) l)) ∧ Below w.heap.size w w' := by
  obtain ⟨i0, hif, hz0, hz1, hz2⟩ := info_parts infoZ
  have b0 := bel1 w (.cells #[.int .i64 reps, .slice a ps.length ca] 29)
  have s0 := slot2New w (.int .i64 reps) (.slice a ps.length ca) 29
  obtain ⟨⟨c0, c1⟩, -⟩ := s0
  have cP := fun w h => specPrims reps a ca ps s w hs hp hq h
  have HE := accH_end (pick ps s) l
  generalize pick ps s = p at cP hq HE ⊢
  rw [← HE]
  clear HE
  have hZl := Rg.zns_len l p
  have cZ := fun (b : Option Addr) (cb : Nat) w h h2 => specZns b c cb cc p l w hq hl h h2
  generalize Rg.zns l p = Z at cZ hZl ⊢
  have cH1 := fun (b : Option Addr) (cb : Nat) (z : Int) (w : World) h => specHas b cb p z w hq h
  have cH2 := fun (b : Option Addr) (cb : Nat) (z : Int) (w : World) h => specHas b cb Z z w (by omega) h
  have HAl : Hid (∀ r, (accH p Z l r).length ≤ 2 * l.length) := accH_len p Z l
  have HA0 : Hid (accH p Z l 0 = []) := rfl
  have HAs : Hid (∀ r, r < 2 → accH p Z l (r + 1) = accH p Z l r ++ selH (decide (r = 1)) p Z l) := fun r hr => accH_succ p Z l hr
  go_enter Try.func34, Try.ntmps34
  go_wp2_with fail
  refine (cP _ (hr.below b0)).mono ?_
  rintro e w2 ⟨a2, c2, rfl, ho2, hb2⟩
  have hB2 := behind b0 hb2
  go_wp2_with fail
  refine (cZ a2 c2 w2 (Zv_rd ho2) (hrl.below hB2)).mono ?_
  rintro e w3 ⟨a3, c3, rfl, ho3, hb3⟩
  have hB3 := behind hB2 hb3
  have r2 := (Zv_rd ho2).below hb3
  have r3 := Zv_rd ho3
  have rl := hrl.below hB3
  clear ho2 ho3 hb2 hb3 hB2 cP cZ hr hrl c0 c1 b0
  have e4 := emptyZ w3
  have b4 := bel1 w3 (.cells #[] 3)
  go_wp2_with fail
  go_loopw [9, 10] (fun v q wr => ∃ r : Nat, r ≤ 2 ∧ q = .int .i64 r ∧ wr.ownsRow w3.heap.size 3 1 v (accH p Z l r).length (Zv (accH p Z l r)) ∧ Below w3.heap.size w3 wr) (fun _ q _ => 2 - (intOf q).toNat)
  case atStart => exact ⟨0, by omega, rfl, by rw [HA0.out]; exact e4, b4⟩
  case round =>
    obtain ⟨r, hr, rfl, ho, hb⟩ := hrel
    by_cases hlt : r < 2
    · have hltI : (r : Int) < 2 := by omega
      have HS0 : Hid (accH p Z l (r + 1) = accH p Z l r ++ selH (decide (r = 1)) p Z l) := HAs.out r hlt
      have hAl := HAl.out r
      obtain ⟨A, hA⟩ : ∃ A, accH p Z l r = A := ⟨_, rfl⟩
      rw [hA] at ho HS0 hAl
      clear hA
      obtain ⟨R, hR⟩ : ∃ R, decide (r = 1) = R := ⟨_, rfl⟩
      have hR1 : ((r : Int) == 1) = R := by
        rw [← hR]
        by_cases h : r = 1
        · subst h; rfl
        · have : ¬ (r : Int) = 1 := by omega
          simp [h, this]
      have hR2 : decide ((r : Int) = 1) = R := by
        rw [← hR]
        by_cases h : r = 1
        · subst h; rfl
        · have : ¬ (r : Int) = 1 := by omega
          simp [h, this]
      rw [hR] at HS0
      go_wp2
      go_loopw [9, 11] (fun v i wq => ∃ (k : Nat) (S : List Int), k ≤ l.length ∧ i = .int .i64 k ∧ Hid (A ++ selH R p Z (l.take k) = S) ∧ S.length ≤ 2 * l.length + k ∧ wq.ownsRow w3.heap.size 3 1 v S.length (Zv S) ∧ Below w3.heap.size w3 wq) (fun _ i _ => l.length - (intOf i).toNat)
      case atStart => exact ⟨0, A, Nat.zero_le _, rfl, by show A ++ selH R p Z (l.take 0) = A; rw [List.take_zero]; exact List.append_nil A, by omega, ho, hb⟩
      case round =>
        obtain ⟨k, S, hk, rfl, HS, hSl, ho, hB⟩ := hrel
        clear hb
        obtain ⟨aS, cS, rfl⟩ := Zv_shape ho
        have q2 := r2.below hB
        have q3 := r3.below hB
        have ql := rl.below hB
        have hB9 := hB.size
        by_cases hkl : k < l.length
        · have hklI : (k : Int) < (l.length : Int) := by omega
          have HT : Hid (A ++ selH R p Z (l.take (k + 1)) = S ++ (if l[k].1 ∈ p then [] else if (decide (l[k].2.1 ∈ Z) == R) = true then [l[k].1] else [])) := by
            show A ++ selH R p Z (l.take (k + 1)) = _
            rw [selH_step hkl, ← List.append_assoc, HS.out]
          obtain ⟨b1, o1, rfl, x0, x1, -⟩ := ql k hkl
          generalize l[k] = d at HT x0 x1
          obtain ⟨i, z, n⟩ := d
          dsimp only at HT x0 x1
          clear HS
          by_cases hin : i ∈ p
          · have HS' : Hid (A ++ selH R p Z (l.take (k + 1)) = S) := by
              show A ++ selH R p Z (l.take (k + 1)) = S
              rw [HT.out, if_pos hin, List.append_nil]
            have hd := decide_eq_true hin
            have c1 := cH1 a2 c2 i wr q2
            rw [hd] at c1
            clear HT hd hin
            go_wp2_with fail
            refine c1.mono ?_
            rintro e wa ⟨rfl, hwa⟩
            subst wa
            go_wp2
            go_roundw
            case rel => exact ⟨k + 1, S, by omega, by go_num, HS', by omega, ho, hB⟩
            case measure => simp [intOf]; omega
          · have hd := decide_eq_false hin
            have c1 := cH1 a2 c2 i wr q2
            rw [hd] at c1
            have cz := cH2 a3 c3 z wr q3
            by_cases hz : (decide (z ∈ Z) == R) = true
            · have HS' : Hid (A ++ selH R p Z (l.take (k + 1)) = S ++ [i]) := by
                show A ++ selH R p Z (l.take (k + 1)) = S ++ [i]
                rw [HT.out, if_neg hin, if_pos hz]
              obtain rfl : decide (z ∈ Z) = R := by simpa using hz
              generalize decide (z ∈ Z) = R at *
              clear HT hd hin hz HS0
              go_wp2_with fail
              refine c1.mono ?_
              rintro e wa ⟨rfl, hwa⟩
              subst wa
              go_wp2_with fail
              refine cz.mono ?_
              rintro e wa ⟨rfl, hwa⟩
              subst wa
              have ho5 := ownOn ho (bel1 wr (.cells #[.int .i64 i] 3))
              have hB5 := behind hB (bel1 wr (.cells #[.int .i64 i] 3))
              go_wp2_with (at_builtin; refine wpList_append_own _ rfl (.tmp 49) (.tmp 55) 32 rfl w3.heap.size 3 i0 _ 1 8 Try.underlying32 hif hz0 hz1 hz2 rfl (by decide) _ _ _ rfl ho5 ⟨_, 0, none⟩ 1 1 [.int .i64 i] rfl rfl oneZ_at oneZ_one (by unfold maxLen; omega) (by omega) (by simp; omega) ?_; intro v6 w6 hown6 hgrow6 hnil6)
              have hB6 := grownOwn hB5 ho5 hgrow6 (by simp; omega)
              have ho6 : w6.ownsRow w3.heap.size 3 1 v6 (S ++ [i]).length (Zv (S ++ [i])) := by
                rw [Zv_snoc, List.length_append]; exact hown6
              clear hown6 hgrow6 hnil6 ho5 hB5 hB ho x0 x1
              go_wp2
              go_roundw
              case rel => exact ⟨k + 1, S ++ [i], by omega, by go_num, HS', by simp; omega, ho6, hB6⟩
              case measure => simp [intOf]; omega
            · have HS' : Hid (A ++ selH R p Z (l.take (k + 1)) = S) := by
                show A ++ selH R p Z (l.take (k + 1)) = S
                rw [HT.out, if_neg hin, if_neg hz, List.append_nil]
              have hz1 : (decide (z ∈ Z) == R) = false := by simpa using hz
              have hz2 : ¬ decide (z ∈ Z) = R := by simpa using hz
              clear HT hd hin hz HS0
              generalize decide (z ∈ Z) = B at *
              go_wp2_with fail
              refine c1.mono ?_
              rintro e wa ⟨rfl, hwa⟩
              subst wa
              go_wp2_with fail
              refine cz.mono ?_
              rintro e wa ⟨rfl, hwa⟩
              subst wa
              go_wp2
              go_roundw
              case rel => exact ⟨k + 1, S, by omega, by go_num, HS', by omega, ho, hB⟩
              case measure => simp [intOf]; omega
        · have e9 : S = accH p Z l (r + 1) := by
            have := HS.out
            rw [List.take_of_length_le (by omega)] at this
            rw [HS0.out]
            exact this.symm
          subst e9
          have hklI : ¬ (k : Int) < (l.length : Int) := by omega
          clear HS
          go_wp2
          go_roundw
          case rel => exact ⟨r + 1, by omega, by go_num, ho, hB⟩
          case measure => simp [intOf]; omega
    · obtain rfl : r = 2 := by omega
      obtain ⟨a9, c9, rfl⟩ := Zv_shape ho
      go_wp2
      go_ret
      exact ⟨a9, c9, rfl, ho.mono hB3.size, hB3.trans (hb.mono hB3.size)⟩
end Go.Proofs.Ytcejeiakgmamdac.Wk

namespace Go.Proofs.Ytcejeiakgmamdac.Wk
set_option linter.unusedVariables false
open Dv

theorem hand_mem {p : List Int} {l : List Sm.St} {d : Sm.St} (h : d ∈ l) : d.1 ∈ hand p l ↔ d.1 ∉ p := by
  unfold hand
  generalize Rg.zns l p = Z
  constructor
  · intro hm
    obtain ⟨e, he, heq⟩ := List.mem_map.1 hm
    rw [← heq]
    rcases List.mem_append.1 he with he | he
    · have := (List.mem_filter.1 he).2
      simp only [Bool.and_eq_true, Bool.not_eq_true', decide_eq_false_iff_not] at this
      exact this.1
    · have := (List.mem_filter.1 he).2
      simp only [Bool.and_eq_true, Bool.not_eq_true', decide_eq_false_iff_not] at this
      exact this.1
  · intro hn
    refine List.mem_map.2 ⟨d, List.mem_append.2 ?_, rfl⟩
    by_cases hz : d.2.1 ∈ Z
    · exact .inr (List.mem_filter.2 ⟨h, by simp [hn, hz]⟩)
    · exact .inl (List.mem_filter.2 ⟨h, by simp [hn, hz]⟩)
theorem hand_dec {p : List Int} {l : List Sm.St} {d : Sm.St} (h : d ∈ l) : decide (d.1 ∈ hand p l) = !decide (d.1 ∈ p) := by
  by_cases hp : d.1 ∈ p
  · have : d.1 ∉ hand p l := fun hm => (hand_mem h).1 hm hp
    simp [hp, this]
  · have : d.1 ∈ hand p l := (hand_mem h).2 hp
    simp [hp, this]
theorem hand_sum (p Z : List Int) (hn : p.Nodup) : ∀ (l : List Sm.St), (l.map fun d => p.count d.1).sum + ((Rg.freshL p Z l).length + (Rg.otherL p Z l).length) = l.length
  | [] => rfl
  | d :: r => by
    have ih := hand_sum p Z hn r
    unfold Rg.freshL Rg.otherL at ih ⊢
    simp only [List.map_cons, List.sum_cons, List.filter_cons, List.length_cons]
    by_cases hp : d.1 ∈ p
    · have h1 : p.count d.1 = 1 := by rw [hn.count, if_pos hp]
      simp [hp, h1]
      omega
    · have h1 : p.count d.1 = 0 := by rw [hn.count, if_neg hp]
      by_cases hz : d.2.1 ∈ Z
      · simp [hp, hz, h1]
        omega
      · simp [hp, hz, h1]
        omega
theorem hand_all {R : Int} {ps : List (List Int)} {l : List Sm.St} (s : ByteArray) (h : Rg.ringB R ps l = true) : ((pick ps s).length : Int) = R ∧ (pick ps s).length + (hand (pick ps s) l).length = l.length := by
  unfold Rg.ringB Rg.headB at h
  simp only [Bool.and_eq_true, decide_eq_true_eq] at h
  obtain ⟨⟨hd, ⟨-, -⟩, hn, -⟩, ha⟩ := h
  obtain ⟨k, hk, -, hp⟩ := pick_at s (ps := ps) (by omega)
  have hq := List.all_eq_true.1 ha _ (List.getElem_mem hk)
  rw [hp]
  generalize ps[k] = q at hq
  unfold Rg.partOk Rg.partB at hq
  simp only [Bool.and_eq_true, decide_eq_true_eq] at hq
  obtain ⟨⟨hnd, hlen⟩, hkn⟩ := hq
  refine ⟨hlen, ?_⟩
  have h1 := Rg.count_sum hd q hkn
  have h2 := hand_sum q (Rg.zns l q) hnd l
  unfold hand
  rw [List.length_map, List.length_append]
  omega
end Go.Proofs.Ytcejeiakgmamdac.Wk
