/- What primaries of the program comes to: a sequence of the Ids of the part; Primaries and IsPrimary. -/
import Derived.Test.YtcejeiakgmamdacPfI
import Derived.Test.YtcejeiakgmamdacSqW
import Derived.Test.YtcejeiakgmamdacOwM
import Derived.Test.YtcejeiakgmamdacApZ
import Derived.Laws.ByValue
namespace Go.Proofs.Ytcejeiakgmamdac.Wk
set_option linter.unusedVariables false
open Go.ChangeShapes Go.WideShapes Go.ChangeAt Go.RowKit

attribute [local go_sem] Oper.semAt_some

theorem fieldPt (w : World) (a : Option Addr) (n c : Nat) : (Instr.field 36 (.agg #[.slice a n c]) 0).run Try.prog w = .ok (.slice a n c) w := by kernel_rfl

set_option maxHeartbeats 2000000 in
set_option maxRecDepth 100000 in
theorem primSeq (wz : World) (reps : Int) (a : Option Addr) (ca : Nat) (ps : List (List Int)) (s : ByteArray) (hs : s.size ≤ 1048576) (hp : ps.length ≤ 1048576) (hq : (pick ps s).length ≤ 1048576) (hr : RdP wz a ps) (Br Bs : Nat) (w : World)
    (hb : Below wz.heap.size wz w) (h0 : w.cell? ⟨Br, 0, none⟩ = some (.int .i64 reps)) (h1 : w.cell? ⟨Br, 1, none⟩ = some (.slice a ps.length ca)) (h2 : w.cell? ⟨Bs, 0, none⟩ = some (.string s)) (n : Nat) (hn : 2 ≤ n) :
    SeqStopsK Fence.wide n Try.prog 90 #[.pointer (some ⟨Br, 0, none⟩), .pointer (some ⟨Bs, 0, none⟩)] (fun x : Int => #[.int .i64 x]) (KpA wz.heap.size) (fun ys => ys = pick ps s) (fun pre => pre <+: pick ps s) (pick ps s).length w := by
  intro l J Jx W hW hJ hJx hY hJ0
  have c0 := cellOn h0 hW
  have c1 := cellOn h1 hW
  have c2 := cellOn h2 hW
  have hbW : Below wz.heap.size wz W := hb.trans (hW.mono hb.size)
  have cF := implFor wz reps a ca ps s W hs hp hbW hr
  refine callsIn_of_wp (F := Fence.wide) Try.func90 rfl trivial ?_ rfl
  simp only [Try.ntmps90, List.size_toArray, List.length_cons, List.length_nil, Nat.reduceAdd, Nat.reduceSub, Array.replicate_succ, Array.replicate_zero, List.push_toArray, List.append_toArray, List.nil_append, List.cons_append]
  have hfd := fieldPt
  have hf9 : Fence.wide.fn 91 := trivial
  have hn1 : 1 ≤ n := by omega
  gi_wp2_with (gi_at_call 91; refine (callsIn_wide.2 cF).mono ?_; rintro e w2 ⟨ai, ci, rfl, hz, hb2⟩)
  have hJ2 : J [] w2 := hJ [] W w2 none hJ0 ⟨hb2.os, hb2.tape, hb2.output, hb2.size, fun k hk _ => hb2.block k hk⟩ (fun r e => by cases e)
  have hbz : Below wz.heap.size wz w2 := hbW.trans (hb2.mono hbW.size)
  gi_loopw [11] (fun i wr => ∃ k : Nat, k ≤ (pick ps s).length ∧ i = .int .i64 k ∧ J ((pick ps s).take k) wr ∧ Below wz.heap.size wz wr)
    (fun i _ => (pick ps s).length - (intOf i).toNat)
  case atStart => exact ⟨0, Nat.zero_le _, rfl, hJ2, hbz⟩
  case round =>
    obtain ⟨k, hk, rfl, hJs, hbr⟩ := hrel
    have hzr := hz.below hbr
    by_cases hlt : k < (pick ps s).length
    · obtain ⟨b, off, rfl, hc⟩ := hzr k hlt
      have hlt' : (k : Int) < ((pick ps s).length : Int) := by omega
      have hT : (pick ps s).take (k + 1) = (pick ps s).take k ++ [(pick ps s)[k]] := List.take_succ_eq_append_getElem hlt
      have hP : (pick ps s).take (k + 1) <+: pick ps s := List.take_prefix _ _
      obtain ⟨fn, tmps, assign, body, hy, hR⟩ := hY _ (pick ps s)[k] wr hJs (by rw [List.length_take]; omega)
      rw [← hT] at hR
      generalize (pick ps s)[k] = x at hc hy hR
      gi_wp2
      refine hR.mono ?_
      rintro e W3 (⟨rfl, hJ3, hk3⟩ | ⟨rfl, hJx3⟩)
      · gi_wp2
        go_roundw
        case rel => exact ⟨k + 1, by omega, by go_num, hJ3, hbr.trans hk3.1⟩
        case measure => simp [intOf]; omega
      · gi_wp2
        refine bodyPost_ret (results_none rfl _ _ _) rfl ?_
        exact ⟨⟨_, rfl⟩, .inr ⟨_, hP, hJx3⟩⟩
    · have e9 : (pick ps s).take k = pick ps s := List.take_of_length_le (by omega)
      rw [e9] at hJs
      obtain rfl : k = (pick ps s).length := by omega
      gi_wp2
      go_end0
      exact ⟨⟨_, rfl⟩, .inl ⟨_, rfl, hJs⟩⟩

set_option maxHeartbeats 2000000 in
set_option maxRecDepth 100000 in
theorem implPrims1 (reps : Int) (a : Option Addr) (n ca : Nat) (s : ByteArray) (w : World) :
    Calls Try.prog 71 #[.agg #[.int .i64 reps, .slice a n ca], .string s] w fun e w' => e = .returned (.func (.func 90) #[] #[.pointer (some ⟨w.heap.size, 0, none⟩), .pointer (some ⟨w.heap.size + 1, 0, none⟩)]) ∧
      w' = (w.alloc (.cells #[.int .i64 reps, .slice a n ca] 29)).alloc (.cells #[.string s] 9) := by
  go_enter Try.func71, Try.ntmps71
  go_wp2
  go_ret
  exact ⟨rfl, rfl⟩

set_option maxHeartbeats 2000000 in
set_option maxRecDepth 100000 in
theorem implPrims (reps : Int) (a : Option Addr) (ca : Nat) (ps : List (List Int)) (s : ByteArray) (w : World) (hs : s.size ≤ 1048576) (hp : ps.length ≤ 1048576) (hq : (pick ps s).length ≤ 1048576) (hr : RdP w a ps) :
    Calls Try.prog 31 #[.agg #[.int .i64 reps, .slice a ps.length ca], .string s] w fun e w' => ∃ (g c : Nat), e = .returned (.slice (some ⟨g, 0, none⟩) (pick ps s).length c) ∧
      w'.ownsRow w.heap.size 3 1 (.slice (some ⟨g, 0, none⟩) (pick ps s).length c) (pick ps s).length (Zv (pick ps s)) ∧ Below w.heap.size w w' := by
  have b0 := bel1 w (.cells #[.int .i64 reps, .slice a ps.length ca] 29)
  have s0 := slot2New w (.int .i64 reps) (.slice a ps.length ca) 29
  obtain ⟨⟨c0, c1⟩, -⟩ := id s0
  have cP := fun w => implPrims1 reps a ps.length ca s w
  go_enter Try.func31, Try.ntmps31
  go_wp2_with fail
  refine (cP _).mono ?_
  rintro e w2 ⟨rfl, rfl⟩
  go_wp2_with fail
  have e1 := (((emptyB (w.alloc (.cells #[.int .i64 reps, .slice a ps.length ca] 29)) w.heap.size (by simp)).alloc (.cells #[.int .i64 reps, .slice a ps.length ca] 29)).alloc (.cells #[.string s] 9))
  have bA := bel1 (w.alloc (.cells #[.int .i64 reps, .slice a ps.length ca] 29)) (.cells #[] 3)
  have bB := bel1 ((w.alloc (.cells #[.int .i64 reps, .slice a ps.length ca] 29)).alloc (.cells #[] 3)) (.cells #[.int .i64 reps, .slice a ps.length ca] 29)
  have bC := bel1 (((w.alloc (.cells #[.int .i64 reps, .slice a ps.length ca] 29)).alloc (.cells #[] 3)).alloc (.cells #[.int .i64 reps, .slice a ps.length ca] 29)) (.cells #[.string s] 9)
  have hB := behind (behind (behind b0 bA) bB) bC
  have s3 := (slot2New ((w.alloc (.cells #[.int .i64 reps, .slice a ps.length ca] 29)).alloc (.cells #[] 3)) (.int .i64 reps) (.slice a ps.length ca) 29).below bC
  have s4 := slot1New (((w.alloc (.cells #[.int .i64 reps, .slice a ps.length ca] 29)).alloc (.cells #[] 3)).alloc (.cells #[.int .i64 reps, .slice a ps.length ca] 29)) (.string s) 9
  simp only [World.size_alloc] at e1 s3 s4
  obtain ⟨⟨d0, d1⟩, -⟩ := id s3
  obtain ⟨d2, -⟩ := id s4
  refine (appSeq 90 _ (enters_of Try.func90 (by kernel_rfl) rfl) (pick ps s) (by omega) w.heap.size _ 0 (fun pre => pre <+: pick ps s) _ e1 (by simp; omega) (by simp) (primSeq w reps a ca ps s hs hp hq hr (w.heap.size + 1 + 1) (w.heap.size + 1 + 1 + 1) _ hB d0 d1 d2 8 (by omega))).mono ?_
  rintro e w5 ⟨g, c, rfl, ho, hb5⟩
  go_wp2
  go_ret
  exact ⟨g, c, rfl, ho, hB.trans hb5⟩

set_option maxHeartbeats 2000000 in
set_option maxRecDepth 100000 in
theorem implIsPrim (reps id : Int) (a : Option Addr) (ca : Nat) (ps : List (List Int)) (s : ByteArray) (w : World) (hs : s.size ≤ 1048576) (hp : ps.length ≤ 1048576) (hq : (pick ps s).length ≤ 1048576) (hr : RdP w a ps) :
    Calls Try.prog 35 #[.agg #[.int .i64 reps, .slice a ps.length ca], .string s, .int .i64 id] w fun e w' => e = .returned (.bool (decide (id ∈ pick ps s))) ∧ Below w.heap.size w w' := by
  refine callsIn_wide.1 (callsIn_of_wp_marks (n := 9) Try.func35 rfl trivial ?_ rfl)
  simp only [Try.ntmps35, List.size_toArray, List.length_cons, List.length_nil, Nat.reduceAdd, Nat.reduceSub, Array.replicate_succ, Array.replicate_zero, List.push_toArray, List.append_toArray, List.nil_append, List.cons_append]
  have cP := fun w => implPrims1 reps a ps.length ca s w
  have hf9 : Fence.wide.fn 71 := trivial
  have hn9 : 1 ≤ 9 := by omega
  gi_wp2_with (gi_at_call 71; refine (callsIn_wide.2 (cP _)).mono ?_; rintro e w2 ⟨rfl, rfl⟩)
  have b0 := bel1 w (.cells #[.int .i64 reps, .slice a ps.length ca] 29)
  have b1 := bel1 (w.alloc (.cells #[.int .i64 reps, .slice a ps.length ca] 29)) (.cells #[.int .i64 id] 3)
  have s1 := slot1New (w.alloc (.cells #[.int .i64 reps, .slice a ps.length ca] 29)) (.int .i64 id) 3
  generalize hw1 : (w.alloc (.cells #[.int .i64 reps, .slice a ps.length ca] 29)).alloc (.cells #[.int .i64 id] 3) = w1 at *
  have z1 : w1.heap.size = w.heap.size + 1 + 1 := by rw [← hw1]; simp
  have b2 := bel1 w1 (.cells #[.bool false] 4)
  have s2 := slot1New w1 (.bool false) 4
  have b3 := bel1 (w1.alloc (.cells #[.bool false] 4)) (.cells #[.int .i64 reps, .slice a ps.length ca] 29)
  have s3 := slot2New (w1.alloc (.cells #[.bool false] 4)) (.int .i64 reps) (.slice a ps.length ca) 29
  have b4 := bel1 ((w1.alloc (.cells #[.bool false] 4)).alloc (.cells #[.int .i64 reps, .slice a ps.length ca] 29)) (.cells #[.string s] 9)
  have s4 := slot1New ((w1.alloc (.cells #[.bool false] 4)).alloc (.cells #[.int .i64 reps, .slice a ps.length ca] 29)) (.string s) 9
  have hB := behind (behind (behind (behind b0 b1) b2) b3) b4
  have s1 := ((s1.below b2).below b3).below b4
  have s2 := (s2.below b3).below b4
  have s3 := s3.below b4
  clear b0 b1 b2 b3 b4
  simp only [World.size_alloc, z1] at s1 s2 s3 s4
  generalize hw5 : ((w1.alloc (.cells #[.bool false] 4)).alloc (.cells #[.int .i64 reps, .slice a ps.length ca] 29)).alloc (.cells #[.string s] 9) = w5 at *
  have z5 : w5.heap.size = w.heap.size + 1 + 1 + 1 + 1 + 1 := by rw [← hw5]; simp [z1]
  clear hw1 hw5
  refine wpIn_rangeFunc_ownF rfl (by omega) (gf := 90) (lb := #[.pointer (some ⟨w.heap.size + 1 + 1 + 1, 0, none⟩), .pointer (some ⟨w.heap.size + 1 + 1 + 1 + 1, 0, none⟩)]) rfl trivial (enters_of Try.func90 (by kernel_rfl) rfl)
    (primSeq w reps a ca ps s hs hp hq hr (w.heap.size + 1 + 1 + 1) (w.heap.size + 1 + 1 + 1 + 1) w5 hB s3.1.1 s3.1.2 s4.1 8 (by omega)) kpA_t (kpA_b (by omega)) (Below.refl _ _) (fun _ => rfl)
    (fun pre W => ((∀ y ∈ pre, y ≠ id) ∧ W.cell? ⟨w.heap.size + 1, 0, none⟩ = some (.int .i64 id) ∧ W.cell? ⟨w.heap.size + 1 + 1, 0, none⟩ = some (.bool false) ∧ W.frozen? ⟨w.heap.size + 1 + 1, 0, none⟩ = false) ∧ Below w.heap.size w W)
    (fun c pre W => (c = .ret ∧ id ∈ pre ∧ W.cell? ⟨w.heap.size + 1 + 1, 0, none⟩ = some (.bool true)) ∧ Below w.heap.size w W)
    (OwnFrom.and (Own.from (fun s A B row hs hg hr => ⟨hs.1, cell_kept hs.2.1 hg hr, cell_kept hs.2.2.1 hg hr, (frozen_kept hs.2.2.1 hg hr).trans hs.2.2.2⟩) _) (ownFrom_below (Nat.le_refl _) (by omega)))
    (fun c => OwnFrom.and (Own.from (fun s A B row hs hg hr => ⟨hs.1, hs.2.1, cell_kept hs.2.2 hg hr⟩) _) (ownFrom_below (Nat.le_refl _) (by omega)))
    ⟨⟨by simp, s1.1, s2.1, s2.2⟩, hB⟩
    (fun x => { tmps := #[.agg #[.int .i64 reps, .slice a ps.length ca], .string s, .int .i64 id, .pointer (some ⟨w.heap.size, 0, none⟩), undef, .pointer (some ⟨w.heap.size + 1, 0, none⟩), .pointer (some ⟨w.heap.size + 1 + 1, 0, none⟩), .int .i64 x, .agg #[.int .i64 reps, .slice a ps.length ca], .string s, .func (.func 90) #[] #[.pointer (some ⟨w.heap.size + 1 + 1 + 1, 0, none⟩), .pointer (some ⟨w.heap.size + 1 + 1 + 1 + 1, 0, none⟩)], .int .i64 x, undef, undef, undef], defers := [] }) ?assign ?body ?done ?stop
  case assign =>
    intro l x W K hK
    gi_wp2
    exact hK
  case body =>
    rintro l pre x W ⟨⟨hp, hcw, hcr, hfr⟩, hB⟩ _
    gi_wp2
    · rename_i hx
      obtain rfl : x = id := by simpa using hx
      exact ⟨KeepsOthers.setCell _ _ _, ⟨rfl, List.mem_append.2 (.inr (by simp)), World.cell?_setCell_same' _ _ _ (by rw [hcr]; rfl)⟩, hB.setCell (p := ⟨w.heap.size + 1 + 1, 0, none⟩) (by simp; omega) _⟩
    · rename_i hx
      exact ⟨KeepsOthers.refl _, kpA_refl _ _, ⟨fun y hy => (List.mem_append.1 hy).elim (hp y) (fun e e' => by simp at e; subst e; subst e'; simp at hx), hcw, hcr, hfr⟩, hB⟩
  case done =>
    rintro D ys W hD rfl ⟨⟨hne, _, hcr, hfr⟩, hB⟩ hK
    gi_wp2
    have hK' := (KeepsOthers.setCell W ⟨w.heap.size + 1 + 1, 0, none⟩ (.bool false)).same D _ hK rfl
    refine ⟨by simp, .inl ⟨_, _, rfl, run_takeDeferred hK', ?_⟩⟩
    have hc5 := cell_kept (World.cell?_setCell_same' W ⟨w.heap.size + 1 + 1, 0, none⟩ (.bool false) (by rw [hcr]; rfl)) (grownBy_putObj' _ D (.deferred none)) (fun r e => by cases e; exact ⟨_, hK', rfl⟩)
    refine ⟨.bool false, ?_, by rw [decide_eq_false (fun h => hne id h rfl)], (hB.setCell (p := ⟨w.heap.size + 1 + 1, 0, none⟩) (by simp; omega) _).trans (belowK_b (w := w) (Nat.le_refl _) _ D _ _ (by omega) hK' rfl rfl)⟩
    simp [results, Try.f35, go_sem, hc5]
  case stop =>
    rintro D c pre W hD hpre ⟨⟨rfl, hin, hcr⟩, hB⟩ hK
    gi_wp2
    refine ⟨by simp, .inl ⟨_, _, rfl, run_takeDeferred hK, ?_⟩⟩
    have hc5 := cell_kept hcr (grownBy_putObj' _ D (.deferred none)) (fun r e => by cases e; exact ⟨_, hK, rfl⟩)
    refine ⟨.bool true, ?_, by rw [decide_eq_true (hpre.subset hin)], hB.trans (belowK_b (w := w) (Nat.le_refl _) W D _ _ (by omega) hK rfl rfl)⟩
    simp [results, Try.f35, go_sem, hc5]
end Go.Proofs.Ytcejeiakgmamdac.Wk
