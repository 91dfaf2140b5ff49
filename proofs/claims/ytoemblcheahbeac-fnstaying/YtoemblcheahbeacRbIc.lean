/- What copyRing of the program comes to: the same ring in memory of its own. -/
import Derived.Test.YtoemblcheahbeacRbIb
import Derived.Deep.RegionHeld3
import Derived.Deep.CutBlock
import Derived.Deep.DeepCutAuto
namespace Go.Proofs.Ytoemblcheahbeac.Wk
set_option linter.unusedVariables false
open Go.ChangeShapes Go.WideShapes Go.ChangeAt Go.RowKit

set_option maxHeartbeats 4000000 in
set_option maxRecDepth 100000 in
theorem implCopy (reps : Int) (a : Option Addr) (ca : Nat) (Q : List (List Int)) (w : World) (hQ : Q.length ≤ 1048576) (hpp : ∀ p ∈ Q, p.length ≤ 1048576) (hr : RdN w a Q) (hnil : a = none → ca = 0) :
    Calls Try.prog 51 #[.agg #[.int .i64 reps, .slice a Q.length ca]] w fun e w' => ∃ (a' : Option Addr) (ca' : Nat), e = .returned (.agg #[.int .i64 reps, .slice a' Q.length ca']) ∧
      OwnP w' w.heap.size (.slice a' Q.length ca') Q ∧ Below w.heap.size w w' := by
  have s0 := (slot2New w (.int .i64 reps) (.slice a Q.length ca) 29).below (bel1 _ (.cells #[.int .i64 0, .slice none 0 0] 29))
  have r0 := slot2New (w.alloc (.cells #[.int .i64 reps, .slice a Q.length ca] 29)) (.int .i64 0) (.slice none 0 0) 29
  have hB0 := bel2 w (.cells #[.int .i64 reps, .slice a Q.length ca] 29) (.cells #[.int .i64 0, .slice none 0 0] 29)
  have hr0 := hr.below hB0
  have hs0 : ((w.alloc (.cells #[.int .i64 reps, .slice a Q.length ca] 29)).alloc (.cells #[.int .i64 0, .slice none 0 0] 29)).heap.size = w.heap.size + 2 := by simp
  rw [World.size_alloc] at r0
  go_enter Try.func51, Try.ntmps51
  go_upto_region 1 with fail
  generalize (w.alloc (.cells #[.int .i64 reps, .slice a Q.length ca] 29)).alloc (.cells #[.int .i64 0, .slice none 0 0] 29) = w2 at s0 r0 hB0 hr0 hs0 ⊢
  go_cut [3] (fun v wx => ∃ (Bc : Nat) (a' : Option Addr) (c' : Nat) (vs : List Value), v = .pointer (some ⟨Bc, 0, none⟩) ∧ Slot2 wx Bc (.int .i64 reps) (.slice a' Q.length c') ∧ wx.ownsRow w2.heap.size 36 1 (.slice a' Q.length c') Q.length vs ∧ RowP w2 vs Q ∧ w2.heap.size ≤ Bc ∧ (Value.slice a' Q.length c').ownBlock ≠ some Bc ∧ Below w2.heap.size w2 wx)
  case first =>
    obtain ⟨⟨x0, x1⟩, -⟩ := id s0
    have cC := fun (w' : World) (h : RdN w' a Q) => cloneP a ca Q w' hQ h hnil
    have bN := bel1 w2 (.cells #[.int .i64 0, .slice none 0 0] 29)
    have nN := slot2New w2 (.int .i64 0) (.slice none 0 0) 29
    have xN := s0.below bN
    have hrN := hr0.below bN
    rw [hs0] at nN
    go_region_held3 (fun wy => wy.cell? ⟨w.heap.size, 0, none⟩ = some (.int .i64 reps) ∧ wy.cell? ⟨w.heap.size, 1, none⟩ = some (.slice a Q.length ca))
      (first | exact ⟨x0, x1⟩ | exact keepR2 ‹_› ‹_› | exact (Slot2.below (Slot2.below (w := w2.drew) s0 hb3) (bel1 _ _)).1 | exact xN.1 | go_keep)
      (first | (go_at_call 68; refine (cC _ (by first | exact hr0 | exact hrN)).mono ?_; rintro e w3 ⟨a3, c3, vs, rfl, ho3, hS3, hb3⟩; (first | (have n3 : Slot2 w3 (w.heap.size + 2) (.int .i64 0) (.slice none 0 0) := Slot2.below (w := (w2.alloc (.cells #[.int .i64 0, .slice none 0 0] 29)).drew) nN hb3; obtain ⟨⟨k0, k1⟩, l0, l1⟩ := id n3) | skip)) | fail)
    · have bM := bel1 w3 (.cells #[.int .i64 reps, .slice a3 Q.length c3] 29)
      have hBx : Below w2.heap.size w2 (w3.alloc (.cells #[.int .i64 reps, .slice a3 Q.length c3] 29)) := behind (behind (Below.refl _ _).drew hb3) bM
      have hRx := hS3 w2 (Below.refl _ _).drew hr0
      have hoB : (Value.slice a3 Q.length c3).ownBlock ≠ some w3.heap.size := fun e => by
        have := (World.ownsRow.lt ho3 _ e).2
        omega
      have hsz := hBx.size
      go_wp2_with fail
      go_meet
      exact ⟨w3.heap.size, a3, c3, vs, rfl, slot2New _ _ _ _, ownOn ho3 bM, hRx, hb3.size, hoB, hBx⟩
    · have n9 := n3.set2 (.int .i64 reps) (.slice a3 Q.length c3)
      have hoB : ∀ j, (Value.slice a3 Q.length c3).ownBlock = some j → w.heap.size + 3 ≤ j := fun j e => by
        have : w2.heap.size + 1 ≤ j := by simpa using (World.ownsRow.lt ho3 _ e).1
        omega
      have hBx : Below w2.heap.size w2 ((w3.setCell ⟨w.heap.size + 2, 0, none⟩ (.int .i64 reps)).setCell ⟨w.heap.size + 2, 1, none⟩ (.slice a3 Q.length c3)) :=
        ((behind bN.drew hb3).setCell (by show w2.heap.size ≤ w.heap.size + 2; omega) _).setCell (by show w2.heap.size ≤ w.heap.size + 2; omega) _
      have hRx := hS3 w2 bN.drew hr0
      have hox : (Value.slice a3 Q.length c3).ownBlock ≠ some (w.heap.size + 2) := fun e => by
        have := hoB _ e
        omega
      have hoW := ownFar (o := 1) (u := .slice a3 Q.length c3) (ownFar (o := 0) (u := .int .i64 reps) ho3 hox) hox
      go_wp2_with fail
      go_meet
      exact ⟨w.heap.size + 2, a3, c3, vs, rfl, n9, hoW.mono (by simp), hRx, by omega, hox, hBx⟩
  case rest =>
    obtain ⟨Bc, a3, c3, vs, rfl, sC, hrow, hR, hBc, hoB, hB3⟩ := hcut
    obtain ⟨⟨c0, c1⟩, -⟩ := id sC
    go_wp2
    clear c0 c1
    go_loopw [15] (fun i wr => ∃ (k : Nat) (us : List Value), k ≤ Q.length ∧ i = .int .i64 k ∧ Slot2 wr Bc (.int .i64 reps) (.slice a3 Q.length c3) ∧ wr.ownsRow w2.heap.size 36 1 (.slice a3 Q.length c3) Q.length us ∧ OwnE wr w2.heap.size (Value.slice a3 Q.length c3).ownBlock us Q k ∧ Hid (∀ j, k ≤ j → us[j]? = vs[j]?) ∧ Below w2.heap.size w2 wr) (fun i _ => Q.length - (intOf i).toNat)
    case atStart => exact ⟨0, vs, Nat.zero_le _, rfl, sC, hrow, ⟨fun i _ hi => absurd hi (Nat.not_lt_zero i), fun i j ui uj hi => absurd hi (Nat.not_lt_zero i)⟩, fun _ _ => rfl, hB3⟩
    case round =>
      obtain ⟨k, us, hk, rfl, sk, hrowk, hE, HU, hb⟩ := hrel
      clear sC hrow hB3
      obtain ⟨⟨c0, c1⟩, f0, f1⟩ := id sk
      by_cases hlt : k < Q.length
      · obtain ⟨ai, ci, hvk, hz, hcap, hnl⟩ := hR.2 k hlt
        have hpl := hpp Q[k] (List.getElem_mem hlt)
        obtain ⟨g, rfl⟩ : ∃ g, a3 = some ⟨g, 0, none⟩ := by
          rcases hrowk.2 with ⟨_, h0⟩ | ⟨g, cap', cur, e, _⟩
          · omega
          · simp only [Value.slice.injEq] at e
            exact ⟨g, e.1⟩
        have huk : us[k]? = some (.slice ai Q[k].length ci) := by rw [HU.out k (Nat.le_refl _)]; exact hvk
        have hcell := hrowk.cellAt k (by omega)
        rw [huk] at hcell
        have hfk := hrowk.frozenAt k
        have hgs := (World.ownsRow.lt hrowk g rfl).2
        have hg2 := (World.ownsRow.lt hrowk g rfl).1
        have hul : us.length = Q.length * 1 := hrowk.1
        have hne : Bc ≠ g := fun e => hoB (by rw [e]; rfl)
        have HE : Hid (OwnE wr w2.heap.size (some g) us Q k) := hE
        have cC := fun (w' : World) (h : RdZ w' ai Q[k]) => cloneZ ai ci Q[k] w' hpl h hnl
        obtain ⟨n, hn⟩ : ∃ n, Q[k].length = n := ⟨_, rfl⟩
        rw [hn] at hcell
        have cC' := cC wr (hz.below hb)
        rw [hn] at cC'
        clear cC hE huk
        go_wp2_with fail
        refine cC'.mono ?_
        rintro e w5 ⟨a5, c5, rfl, ho5, hb5⟩
        have s5 := sk.below hb5
        have row5 := ownOn hrowk hb5
        have hcell5 := cellOn hcell hb5
        have hfk5 := row5.frozenAt k
        have FIN : OwnE (w5.setCell ⟨g, k, none⟩ (.slice a5 n c5)) w2.heap.size (some g) (us.set k (.slice a5 n c5)) Q (k + 1) := by
          refine OwnE.putN HE.out hb5 hgs hlt hul ?_ (fun j e => (World.ownsRow.lt ho5 j e).1)
          rw [hn]
          exact ho5.mono hb.size
        have hBx : Below w2.heap.size w2 (w5.setCell ⟨g, k, none⟩ (.slice a5 n c5)) := (behind hb hb5).setCell hg2 _
        have sx := Slot2.far (o := k) (x := .slice a5 n c5) s5 (fun e => hne e.symm)
        have rowx := (row5.stored k (.slice a5 n c5)).1
        clear HE cC' ho5 hb5 hcell hfk hrowk sk c0 c1 f0 f1
        go_wp2
        go_roundw
        case rel => exact ⟨k + 1, us.set k (.slice a5 n c5), by omega, by go_num, sx, rowx, FIN, fun j hj => by rw [List.getElem?_set_ne (by omega)]; exact HU.out j (by omega), hBx⟩
        case measure => simp [intOf]; omega
      · have hke : k = Q.length := by omega
        subst hke
        obtain ⟨⟨t0, t1⟩, t2, t3⟩ := r0.below hb
        go_wp2
        have e0 : ((wr.setCell ⟨w.heap.size + 1, 0, none⟩ (.int .i64 reps)).setCell ⟨w.heap.size + 1, 1, none⟩ (.slice a3 Q.length c3)).cell? ⟨w.heap.size + 1, 0, none⟩ = some (.int .i64 reps) := by
          rw [World.cell?_setCell_other _ _ _ _ (by simp)]
          exact World.cell?_setCell_same' _ _ _ (by rw [t0]; rfl)
        have e1 : ((wr.setCell ⟨w.heap.size + 1, 0, none⟩ (.int .i64 reps)).setCell ⟨w.heap.size + 1, 1, none⟩ (.slice a3 Q.length c3)).cell? ⟨w.heap.size + 1, 1, none⟩ = some (.slice a3 Q.length c3) :=
          World.cell?_setCell_same' _ _ _ (by rw [World.cell?_setCell_other _ _ _ _ (by simp), t1]; rfl)
        have hO : OwnP wr w2.heap.size (.slice a3 Q.length c3) Q := ⟨us, hrowk, hE⟩
        refine bodyPost_ret (v := .agg #[.int .i64 reps, .slice a3 Q.length c3]) (by simp [results, Try.results51, go_sem, e0, e1]) rfl ⟨a3, c3, rfl, ?_, ?_⟩
        · exact ((hO.far (by omega)).far (by omega)).mono (by omega)
        · exact ((behind hB0 hb).setCell (by show w.heap.size ≤ w.heap.size + 1; omega) _).setCell (by show w.heap.size ≤ w.heap.size + 1; omega) _
end Go.Proofs.Ytoemblcheahbeac.Wk
