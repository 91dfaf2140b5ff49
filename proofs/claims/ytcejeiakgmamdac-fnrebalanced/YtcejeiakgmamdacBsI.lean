/- What Best of the program comes to. -/
import Derived.Test.YtcejeiakgmamdacOpI
import Derived.Test.YtcejeiakgmamdacLtI
import Derived.Test.YtcejeiakgmamdacDvI
namespace Go.Proofs.Ytcejeiakgmamdac.Wk
set_option linter.unusedVariables false
open Go.ChangeShapes Go.WideShapes Go.ChangeAt Go.RowKit

theorem wfZone {l : List Sm.St} (hd : Dv.devs l = true) : ∀ d ∈ l, (Lit.int .i64 d.2.1).wf = true := by
  intro d hm
  obtain ⟨-, h⟩ := Dv.devs_dev hd
  have := h d hm
  unfold Dv.dev at this
  simp at this
  have e0 : IntKind.i64.min = -9223372036854775808 := rfl
  have e1 : IntKind.i64.max = 9223372036854775807 := rfl
  simp [Lit.wf, e0, e1]
  omega
theorem wfWeight {l : List Sm.St} (hd : Dv.devs l = true) : ∀ d ∈ l, 1 ≤ d.2.2 ∧ d.2.2 ≤ 1000 := by
  intro d hm
  obtain ⟨-, h⟩ := Dv.devs_dev hd
  have := h d hm
  unfold Dv.dev at this
  simp at this
  omega
theorem openL_mem {p Z : List Int} {l : List Sm.St} {d : Sm.St} (h : d ∈ Rg.openL p Z l) : d ∈ l := by
  unfold Rg.openL at h
  split at h
  · exact (List.mem_filter.1 h).1
  · exact (List.mem_filter.1 h).1
theorem bestNoI {ps : List (List Int)} {p : List Int} {l : List Sm.St} (h : Dv.devs l = false) : Rg.best ps p l = -1 := by unfold Rg.best; rw [h]; rfl

set_option maxHeartbeats 2000000 in
set_option maxRecDepth 100000 in
theorem implBest (reps : Int) (a b c : Option Addr) (ca cb cc : Nat) (ps : List (List Int)) (p : List Int) (l : List Sm.St) (w : World) (hps : ps.length ≤ 1048576) (ht : tot ps ≤ 1048576) (hp : p.length ≤ 1048576) (hl : l.length ≤ 1048576) (hr : RdP w a ps) (hrp : RdZ w b p) (hrl : RdS w c l) :
    Calls Try.prog 20 #[.agg #[.int .i64 reps, .slice a ps.length ca], .agg #[.slice b p.length cb], .slice c l.length cc] w fun e w' => e = .returned (.int .i64 (Rg.best ps p l)) ∧ Below w.heap.size w w' := by
  have hB0 := bel2 w (.cells #[.int .i64 reps, .slice a ps.length ca] 29) (.cells #[.slice b p.length cb] 36)
  have s0 := (slot2New w (.int .i64 reps) (.slice a ps.length ca) 29).below (bel1 _ (.cells #[.slice b p.length cb] 36))
  have s1 := slot1New (w.alloc (.cells #[.int .i64 reps, .slice a ps.length ca] 29)) (.slice b p.length cb) 36
  simp only [World.size_alloc] at s1
  have cD := fun w h => implDevs c cc l w (by omega) h
  cases hd : Dv.devs l with
  | false =>
    rw [hd] at cD
    rw [bestNoI hd]
    clear hd
    go_enter Try.func20, Try.ntmps20
    go_wp2_with fail
    refine (cD _ (hrl.below hB0)).mono ?_
    rintro e w1 ⟨rfl, hb1⟩
    go_wp2
    go_ret
    exact ⟨rfl, behind hB0 hb1⟩
  | true =>
    rw [hd] at cD
    obtain ⟨G, hG⟩ : ∃ G, Rg.best ps p l = G := ⟨_, rfl⟩
    have hG' := Rg.best_open ps p hd
    rw [hG] at hG' ⊢
    clear hG
    have hwf := wfZone hd
    have hwt := wfWeight hd
    obtain ⟨⟨hl1, hl12⟩, -⟩ := Dv.devs_dev hd
    clear hd
    have cO := fun (w' : World) h1 h2 => openI b c cb cc p l w' hp hl1 hl h1 h2 hwf
    have HW : Hid (∀ d ∈ Rg.openL p (Rg.zns l p) l, 1 ≤ d.2.2 ∧ d.2.2 ≤ 1000) := fun d h => hwt d (openL_mem h)
    generalize Rg.openL p (Rg.zns l p) l = Q at cO HW hG'
    have HG : Hid (G = match Rg.lfold ps Q with
      | none => -1
      | some d => d.1) := hG'
    clear hG'
    clear hwf hwt
    go_enter Try.func20, Try.ntmps20
    go_wp2_with fail
    refine (cD _ (hrl.below hB0)).mono ?_
    rintro e w1 ⟨rfl, hb1⟩
    have hB1 := behind hB0 hb1
    obtain ⟨⟨r0, r1⟩, -⟩ := s0.below hb1
    obtain ⟨r2, -⟩ := s1.below hb1
    have hr1 := hr.below hB1
    have hrp1 := hrp.below hB1
    have hrl1 := hrl.below hB1
    clear s0 s1 hb1 hB0 cD
    have cO1 := cO w1.drew hrp1 hrl1
    have cL := fun (a' : Option Addr) (cp bl : Nat) (L : List (Nat × Sm.St)) (w' : World) h0 h1 h2 h3 h4 => lightestI reps a a' ca cp ps bl L w' hps ht h0 h1 h2 h3 h4
    go_wp2_with fail
    go_region_held3 (fun wy => wy.cell? ⟨w.heap.size, 0, none⟩ = some (.int .i64 reps) ∧ wy.cell? ⟨w.heap.size, 1, none⟩ = some (.slice a ps.length ca) ∧ wy.cell? ⟨w.heap.size + 1, 0, none⟩ = some (.slice b p.length cb))
      (first | exact ⟨r0, r1, r2⟩ | exact keepR3 ‹_› ‹_› | go_keep)
      (first | (go_at_call 51; refine cO1.mono ?_; rintro e w2 ⟨bl, L, a', cp, rfl, hown, hQ, hled, hLl, hb2⟩; have hwL : ∀ x ∈ L, 1 ≤ x.2.2.2 ∧ x.2.2.2 ≤ 1000 := fun x hx => HW.out x.2 (hQ ▸ List.mem_map_of_mem hx)) | (go_at_call 50; refine (cL a' cp bl L _ (by omega) (by exact RdP.below (w := w1.drew) hr1 hb2) (by exact Pv_rd hown) (by exact Led.below (w := w1.drew) hled hb2) hwL).mono ?_; rintro e w3 ⟨r, rfl, hr9, hrm, hb3⟩) | fail)
    have hB3 := behind (behind hB1.drew hb2) hb3
    have hled3 := Led.below (Led.below (w := w1.drew) hled hb2) hb3
    rw [hQ] at hr9
    have eG := HG.out
    rw [hr9] at eG
    clear hQ hr9 hown HW hled HG
    cases r with
    | none =>
      simp only [Option.map_none] at eG ⊢
      subst eG
      go_wp2
      go_ret
      exact ⟨rfl, hB3⟩
    | some x =>
      obtain ⟨o, i, z, n⟩ := x
      obtain ⟨x0, -⟩ := hled3 _ (hrm _ rfl)
      dsimp only at x0
      simp only [Option.map_some] at eG ⊢
      subst eG
      clear hled3 hrm
      go_wp2
      go_ret
      exact ⟨rfl, hB3⟩
end Go.Proofs.Ytcejeiakgmamdac.Wk
