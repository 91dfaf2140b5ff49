/- What Rebalance of the program comes to. -/
import Derived.Test.YtoemblcheahbeacRbIg
import Derived.Test.YtoemblcheahbeacRbIc
import Derived.Test.YtoemblcheahbeacRbIa
import Derived.Test.YtoemblcheahbeacEqA
import Derived.Test.YtoemblcheahbeacRgK
import Derived.Deep.RegionHeld3
import Derived.Deep.CutBlock
import Derived.Deep.DeepCutAuto
namespace Go.Proofs.Ytoemblcheahbeac.Wk
set_option linter.unusedVariables false
open Go.ChangeShapes Go.WideShapes Go.ChangeAt Go.RowKit

theorem keep8 {w w' : World} {a1 a2 a3 a4 a5 a6 a7 a8 : Addr} {v1 v2 v3 v4 v5 v6 v7 v8 : Value} (h : w.cell? a1 = some v1 ∧ w.cell? a2 = some v2 ∧ w.cell? a3 = some v3 ∧ w.cell? a4 = some v4 ∧ w.cell? a5 = some v5 ∧ w.cell? a6 = some v6 ∧ w.cell? a7 = some v7 ∧ w.cell? a8 = some v8) (hb : Below w.heap.size w w') :
    w'.cell? a1 = some v1 ∧ w'.cell? a2 = some v2 ∧ w'.cell? a3 = some v3 ∧ w'.cell? a4 = some v4 ∧ w'.cell? a5 = some v5 ∧ w'.cell? a6 = some v6 ∧ w'.cell? a7 = some v7 ∧ w'.cell? a8 = some v8 :=
  ⟨by rw [hb.cell (World.block_lt_of_cell? w _ h.1)]; exact h.1, by rw [hb.cell (World.block_lt_of_cell? w _ h.2.1)]; exact h.2.1, by rw [hb.cell (World.block_lt_of_cell? w _ h.2.2.1)]; exact h.2.2.1, by rw [hb.cell (World.block_lt_of_cell? w _ h.2.2.2.1)]; exact h.2.2.2.1, keepR4 h.2.2.2.2 hb⟩

set_option maxHeartbeats 4000000 in
set_option maxRecDepth 100000 in
theorem implRebNo (reps : Int) (a c : Option Addr) (ca cc : Nat) (Q : List (List Int)) (l : List Sm.St) (w : World) (hQ : Q.length ≤ 1048576) (ht : tot Q ≤ 1048576) (hl : l.length ≤ 1048576) (hr : RdN w a Q) (hnil : a = none → ca = 0) (hs : RdS w c l) (hno : Rg.movB reps Q l = false) :
    Calls Try.prog 25 #[.agg #[.int .i64 reps, .slice a Q.length ca], .slice c l.length cc] w fun e w' => ∃ (a' : Option Addr) (ca' : Nat), e = .returned (.tuple #[.agg #[.int .i64 reps, .slice a' Q.length ca'], .int .i64 (-1)]) ∧
      OwnP w' w.heap.size (.slice a' Q.length ca') Q ∧ Below w.heap.size w w' := by
  have hpp : ∀ p ∈ Q, p.length ≤ 1048576 := fun p h => Nat.le_trans (tot_mem h) ht
  have cM := fun a' ca' w' h1 h2 => implMov reps a' c ca' cc Q l w' hQ hpp hl h1 h2
  rw [hno] at cM
  have s0 := (slot2New w (.int .i64 reps) (.slice a Q.length ca) 29).below (bel1 _ (.cells #[.int .i64 0, .slice none 0 0] 29))
  have r0 := slot2New (w.alloc (.cells #[.int .i64 reps, .slice a Q.length ca] 29)) (.int .i64 0) (.slice none 0 0) 29
  have hB0 := bel2 w (.cells #[.int .i64 reps, .slice a Q.length ca] 29) (.cells #[.int .i64 0, .slice none 0 0] 29)
  have hr0 := hr.below hB0
  have hs0 := hs.below hB0
  have hz0 : ((w.alloc (.cells #[.int .i64 reps, .slice a Q.length ca] 29)).alloc (.cells #[.int .i64 0, .slice none 0 0] 29)).heap.size = w.heap.size + 2 := by simp
  rw [World.size_alloc] at r0
  go_enter Try.func25, Try.ntmps25
  go_wp2_with fail
  generalize (w.alloc (.cells #[.int .i64 reps, .slice a Q.length ca] 29)).alloc (.cells #[.int .i64 0, .slice none 0 0] 29) = w2 at s0 r0 hB0 hr0 hs0 hz0 ⊢
  refine (implCopy reps a ca Q _ hQ hpp hr0 hnil).mono ?_
  rintro e w3 ⟨a3, c3, rfl, hO3, hb3⟩
  have bN := bel1 w3 (.cells #[.int .i64 reps, .slice a3 Q.length c3] 29)
  have n0 := slot2New w3 (.int .i64 reps) (.slice a3 Q.length c3) 29
  have hb4 := behind hb3 bN
  have s4 := s0.below hb4
  have r4 := r0.below hb4
  have hB4 := behind hB0 hb4
  have hO4 := hO3.below bN
  have hr4 := hr0.below hb4
  have hs4 := hs0.below hb4
  obtain ⟨⟨x0, x1⟩, -⟩ := id s4
  go_wp2_with fail
  generalize w3.alloc (.cells #[.int .i64 reps, .slice a3 Q.length c3] 29) = w4 at bN n0 hb4 s4 r4 hB4 hO4 hr4 hs4 x0 x1 ⊢
  refine (cM _ _ _ hr4.rd hs4).mono ?_
  rintro e w5 ⟨rfl, hb5⟩
  have r5 := r4.below hb5
  have n5 := n0.below hb5
  have hO5 := hO4.below hb5
  have hB5 := behind hB4 hb5
  obtain ⟨⟨t0, t1⟩, t2, t3⟩ := id r5
  obtain ⟨⟨y0, y1⟩, -⟩ := id n5
  clear x0 x1 cM s0 s4 r0 r4
  go_wp2
  have e0 : ((w5.setCell ⟨w.heap.size + 1, 0, none⟩ (.int .i64 reps)).setCell ⟨w.heap.size + 1, 1, none⟩ (.slice a3 Q.length c3)).cell? ⟨w.heap.size + 1, 0, none⟩ = some (.int .i64 reps) := by
    rw [World.cell?_setCell_other _ _ _ _ (by simp)]
    exact World.cell?_setCell_same' _ _ _ (by rw [t0]; rfl)
  have e1 : ((w5.setCell ⟨w.heap.size + 1, 0, none⟩ (.int .i64 reps)).setCell ⟨w.heap.size + 1, 1, none⟩ (.slice a3 Q.length c3)).cell? ⟨w.heap.size + 1, 1, none⟩ = some (.slice a3 Q.length c3) :=
    World.cell?_setCell_same' _ _ _ (by rw [World.cell?_setCell_other _ _ _ _ (by simp), t1]; rfl)
  refine bodyPost_ret (v := .tuple #[.agg #[.int .i64 reps, .slice a3 Q.length c3], .int .i64 (-1)]) (by simp [results, Try.results25, go_sem, e0, e1]) rfl ⟨a3, c3, rfl, ?_, ?_⟩
  · exact ((hO5.far (by omega)).far (by omega)).mono (by omega)
  · exact (hB5.setCell (by show w.heap.size ≤ w.heap.size + 1; omega) _).setCell (by show w.heap.size ≤ w.heap.size + 1; omega) _

set_option maxHeartbeats 8000000 in
set_option maxRecDepth 100000 in
theorem implRebYes (reps : Int) (a c : Option Addr) (ca cc : Nat) (Q : List (List Int)) (l : List Sm.St) (w : World) (hr : RdN w a Q) (hnil : a = none → ca = 0) (hs : RdS w c l) (hyes : Rg.movB reps Q l = true) :
    Calls Try.prog 25 #[.agg #[.int .i64 reps, .slice a Q.length ca], .slice c l.length cc] w fun e w' => ∃ (a' : Option Addr) (ca' : Nat), e = .returned (.tuple #[.agg #[.int .i64 reps, .slice a' Q.length ca'], .int .i64 ((Rg.rebK l Q Q.length).2 : Int)]) ∧
      OwnP w' w.heap.size (.slice a' Q.length ca') (Rg.rebK l Q Q.length).1 ∧ Below w.heap.size w w' := by
  obtain ⟨hd, ⟨hr1, hr5⟩, ⟨hq1, hq64⟩, hrl⟩ := Rg.mov_head hyes
  have hev := Rg.mov_each hyes
  have hQ : Q.length ≤ 1048576 := by omega
  obtain ⟨⟨hl1, hl12⟩, -⟩ := Dv.devs_dev hd
  have hl : l.length ≤ 1048576 := by omega
  have hpl : ∀ q ∈ Q, 1 ≤ q.length ∧ q.length ≤ 5 := fun q hq => by have := (hev q hq).2; omega
  have hpp : ∀ p ∈ Q, p.length ≤ 1048576 := fun p h => by have := hpl p h; omega
  have HR : Hid (∀ k, k ≤ Q.length → tot (Rg.rebK l Q k).1 ≤ 1048576) := fun k hk => by
    have h5 : ∀ q ∈ (Rg.rebK l Q k).1, q.length ≤ 5 := Rg.rebK_each (φ := fun q => q.length ≤ 5) (fun q hq => (hpl q hq).2) (fun R q hq => by rw [Rg.mvTo_len]; exact (hpl q hq).2) k hk
    have h6 : ∀ (ps : List (List Int)), (∀ q ∈ ps, q.length ≤ 5) → tot ps ≤ ps.length * 5 := by
      intro ps
      induction ps with
      | nil => intro _; simp [tot]
      | cons a r ih =>
        intro h
        have h1 := ih (fun q hq => h q (List.mem_cons_of_mem _ hq))
        have h2 := h a List.mem_cons_self
        simp only [tot, List.map_cons, List.sum_cons, List.length_cons] at h1 ⊢
        omega
    have := h6 _ h5
    rw [Rg.rebK_len] at this
    omega
  have HQ : Hid (∀ q ∈ Q, q.Nodup ∧ (q.length : Int) = reps) := hev
  have HP : Hid (∀ q ∈ Q, 1 ≤ q.length ∧ q.length ≤ 5) := hpl
  have HD : Hid (Dv.devs l = true) := hd
  have cM := fun a' ca' w' h1 h2 => implMov reps a' c ca' cc Q l w' hQ hpp hl h1 h2
  rw [hyes] at cM
  obtain ⟨G, hG⟩ : ∃ G, Rg.rebK l Q Q.length = G := ⟨_, rfl⟩
  have HG : Hid (Rg.rebK l Q Q.length = G) := hG
  rw [hG]
  clear hd hev hpl hyes hG
  have s0 := (slot2New w (.int .i64 reps) (.slice a Q.length ca) 29).below (bel1 _ (.cells #[.int .i64 0, .slice none 0 0] 29))
  have r0 := slot2New (w.alloc (.cells #[.int .i64 reps, .slice a Q.length ca] 29)) (.int .i64 0) (.slice none 0 0) 29
  have hB0 := bel2 w (.cells #[.int .i64 reps, .slice a Q.length ca] 29) (.cells #[.int .i64 0, .slice none 0 0] 29)
  have hr0 := hr.below hB0
  have hs0 := hs.below hB0
  have hz0 : ((w.alloc (.cells #[.int .i64 reps, .slice a Q.length ca] 29)).alloc (.cells #[.int .i64 0, .slice none 0 0] 29)).heap.size = w.heap.size + 2 := by simp
  rw [World.size_alloc] at r0
  go_enter Try.func25, Try.ntmps25
  go_wp2_with fail
  generalize (w.alloc (.cells #[.int .i64 reps, .slice a Q.length ca] 29)).alloc (.cells #[.int .i64 0, .slice none 0 0] 29) = w2 at s0 r0 hB0 hr0 hs0 hz0 ⊢
  refine (implCopy reps a ca Q _ hQ hpp hr0 hnil).mono ?_
  rintro e w3 ⟨a3, c3, rfl, hO3, hb3⟩
  have bN := bel1 w3 (.cells #[.int .i64 reps, .slice a3 Q.length c3] 29)
  have n0 := slot2New w3 (.int .i64 reps) (.slice a3 Q.length c3) 29
  have hb4 := behind hb3 bN
  have s4 := s0.below hb4
  have hr4 := hr0.below hb4
  have hs4 := hs0.below hb4
  obtain ⟨vs, hrow3, hE3⟩ := hO3
  have hrow4 := ownOn hrow3 bN
  have hE4 := hE3.below bN
  have HF : Hid (∀ i u, i < Q.length → vs[i]? = some u → ∀ j, u.ownBlock = some j → j < w3.heap.size) := fun i u hi h j e => by
    obtain ⟨x, e1, e2, -⟩ := hE3.1 i hi hi
    rw [h] at e1
    have := Option.some.inj e1
    subst this
    exact (World.ownsRow.lt e2 j e).2
  obtain ⟨g, rfl⟩ : ∃ g, a3 = some ⟨g, 0, none⟩ := by
    rcases hrow3.2 with ⟨_, h0⟩ | ⟨g, cap', cur, e, _⟩
    · omega
    · simp only [Value.slice.injEq] at e
      exact ⟨g, e.1⟩
  have hg3 := (World.ownsRow.lt hrow3 g rfl)
  obtain ⟨⟨x0, x1⟩, -⟩ := id s4
  obtain ⟨B, hB⟩ : ∃ B, w3.heap.size = B := ⟨_, rfl⟩
  rw [hB] at n0 HF hg3
  clear hrow3 hE3
  go_wp2_with fail
  generalize w3.alloc (.cells #[.int .i64 reps, .slice (some ⟨g, 0, none⟩) Q.length c3] 29) = w4 at bN n0 hb4 s4 hr4 hs4 hrow4 hE4 x0 x1 ⊢
  refine (cM _ _ _ hr4.rd hs4).mono ?_
  rintro e w5 ⟨rfl, hb5⟩
  have n5 := n0.below hb5
  have hrow5 := ownOn hrow4 hb5
  have hE5 := hE4.below hb5
  have hb25 := behind hb4 hb5
  obtain ⟨⟨y0, y1⟩, -⟩ := id n5
  have hs5' := hs0
  clear x0 x1 cM s0 s4 n0 hr0 hr4 hrow4 hE4 hs4 hb4 hb5 bN
  go_wp2
  clear y0 y1
  clear hB
  go_loopw [7, 22] (fun n i wr => ∃ k : Nat, k ≤ Q.length ∧ i = .int .i64 k ∧ n = .int .i64 ((Rg.rebK l Q k).2 : Int) ∧ Slot2 wr B (.int .i64 reps) (.slice (some ⟨g, 0, none⟩) Q.length c3) ∧ wr.ownsRow w2.heap.size 36 1 (.slice (some ⟨g, 0, none⟩) Q.length c3) Q.length vs ∧ OwnE wr w2.heap.size (some g) vs (Rg.rebK l Q k).1 Q.length ∧ Below w2.heap.size w2 wr) (fun _ i _ => Q.length - (intOf i).toNat)
  case atStart => exact ⟨0, Nat.zero_le _, rfl, rfl, n5, hrow5, hE5, hb25⟩
  case round =>
    obtain ⟨k, hk, rfl, rfl, sk, hrowk, hEk, hb⟩ := hrel
    clear n5 hrow5 hE5 hb25
    obtain ⟨⟨y0, y1⟩, -⟩ := id sk
    by_cases hlt : k < Q.length
    · have hRl : (Rg.rebK l Q k).1.length = Q.length := Rg.rebK_len l Q k
      have hnk : (Rg.rebK l Q k).2 ≤ k := Rg.rebK_le l Q k
      have htk := HR.out k hk
      obtain ⟨hnd, hln⟩ := HQ.out Q[k] (List.getElem_mem hlt)
      obtain ⟨hp1, hp5⟩ := HP.out Q[k] (List.getElem_mem hlt)
      have HST : Hid (Rg.rebK l Q (k + 1) = ((Rg.rebK l Q k).1.set k (Rg.mvTo Q[k] (Rg.mvOne (Rg.rebK l Q k).1 l Q[k])), (Rg.rebK l Q k).2 + Rg.mvN (Rg.mvOne (Rg.rebK l Q k).1 l Q[k]))) := Rg.rebK_step hlt
      have hRk : (Rg.rebK l Q k).1[k]'(by omega) = Q[k] := Rg.rebK_at hlt (by omega)
      have HMV : Hid (∀ j x, Rg.mvOne (Rg.rebK l Q k).1 l Q[k] = some (j, x) → j < Q[k].length ∧ x ∉ Q[k]) := fun j x h => by
        have := Rg.mvOne_is HD.out hnd (by omega) h
        exact ⟨this.1, this.2.1⟩
      obtain ⟨u, hu1, hu2, hu3⟩ := hEk.1 k (by omega) (by omega)
      have hub := HF.out k u hlt hu1
      rw [hRk] at hu2
      obtain ⟨au, cu, rfl⟩ := Zv_shape hu2
      have hRP : RdP wr (some ⟨g, 0, none⟩) (Rg.rebK l Q k).1 := (show OwnP wr w2.heap.size (.slice (some ⟨g, 0, none⟩) Q.length c3) (Rg.rebK l Q k).1 from ⟨vs, by rw [hRl]; exact hrowk, by rw [hRl]; exact hEk⟩).rdS
      have hzu := Zv_rd hu2
      have hcell := hrowk.cellAt k (by have := hrowk.1; omega)
      rw [hu1] at hcell
      have hsr := hs5'.below hb
      clear hRk hln
      generalize (Rg.rebK l Q k).2 = n at HST hnk
      generalize (Rg.rebK l Q k).1 = R at HST hRl htk HMV hEk hRP
      generalize Q[k] = p at HST hnd hp1 hp5 HMV hu1 hu2 hu3 hub hcell hzu
      have cI := fun (w' : World) (h : RdZ w' au p) => implIds au cu p w' hp1 hp5 h
      obtain ⟨M, hM⟩ : ∃ M, Rg.mvOne R l p = M := ⟨_, rfl⟩
      obtain ⟨q, hq⟩ : ∃ q, Rg.mvTo p M = q := ⟨_, rfl⟩
      have cO := fun (w' : World) (h1 : RdP w' (some ⟨g, 0, none⟩) R) (h2 : RdZ w' au p) (h3 : RdS w' c l) => implOne reps (some ⟨g, 0, none⟩) au c c3 cu cc R p l w' (by omega) htk hp1 hp5 hl h1 h2 h3
      rw [hM] at HST HMV cO
      rw [hq] at HST cO
      rw [hRl] at cO
      unfold arr at cO
      have HQM : Hid (Rg.mvTo p M = q) := hq
      clear hM hq
      go_wp2_with fail
      refine (cI _ hzu).mono ?_
      rintro e wI ⟨rfl, hbI⟩
      have bA := bel1 wI (.cells #[.int .i64 (gd p 0), .int .i64 (gd p 1), .int .i64 (gd p 2), .int .i64 (gd p 3), .int .i64 (gd p 4)] 82)
      have sA : Slot5 (wI.alloc (.cells #[.int .i64 (gd p 0), .int .i64 (gd p 1), .int .i64 (gd p 2), .int .i64 (gd p 3), .int .i64 (gd p 4)] 82)) wI.heap.size p := slot5New wI p 82
      have hbA := behind hbI bA
      go_upto_region 10 with fail
      generalize wI.alloc (.cells #[.int .i64 (gd p 0), .int .i64 (gd p 1), .int .i64 (gd p 2), .int .i64 (gd p 3), .int .i64 (gd p 4)] 82) = wA at bA sA hbA ⊢
      obtain ⟨A, hA⟩ : ∃ A, wI.heap.size = A := ⟨_, rfl⟩
      rw [hA] at sA ⊢
      clear bA hbI hA cI hcell y0 y1 hzu
      have kA := sk.below hbA
      have rowA := ownOn hrowk hbA
      have hRA := hRP.below hbA
      have hlA := hsr.below hbA
      have uA := ownOn hu2 hbA
      have hcellA := rowA.cellAt k (by have := rowA.1; omega)
      rw [hu1] at hcellA
      go_cut [11] (fun v wx => ∃ (Ba : Nat), v = .pointer (some ⟨Ba, 0, none⟩) ∧ wx.heap[Ba]? = some (.cells (five q).toArray 82 (0, 0)) ∧ Below wA.heap.size wA wx)
      case first =>
        obtain ⟨⟨c0, c1, c2, c3', c4⟩, -⟩ := sA.out
        obtain ⟨⟨y0, y1⟩, -⟩ := id kA
        have hK8 : wA.cell? ⟨A, 0, none⟩ = some (.int .i64 (gd p 0)) ∧ wA.cell? ⟨A, 1, none⟩ = some (.int .i64 (gd p 1)) ∧ wA.cell? ⟨A, 2, none⟩ = some (.int .i64 (gd p 2)) ∧ wA.cell? ⟨A, 3, none⟩ = some (.int .i64 (gd p 3)) ∧ wA.cell? ⟨A, 4, none⟩ = some (.int .i64 (gd p 4)) ∧ wA.cell? ⟨B, 0, none⟩ = some (.int .i64 reps) ∧ wA.cell? ⟨B, 1, none⟩ = some (.slice (some ⟨g, 0, none⟩) Q.length c3) ∧ wA.cell? ⟨g, k, none⟩ = some (.slice au p.length cu) := ⟨c0, c1, c2, c3', c4, y0, y1, hcellA⟩
        have HK8 : Hid _ := hK8
        have bZ := bel1 wA (.cells #[.int .i64 0, .int .i64 0, .int .i64 0, .int .i64 0, .int .i64 0] 82)
        have hZ : (wA.alloc (.cells #[.int .i64 0, .int .i64 0, .int .i64 0, .int .i64 0, .int .i64 0] 82)).heap[wA.heap.size]? = some (.cells (five []).toArray 82 (0, 0)) := heapNew wA [] 82
        have hsZ : wA.heap.size < (wA.alloc (.cells #[.int .i64 0, .int .i64 0, .int .i64 0, .int .i64 0, .int .i64 0] 82)).heap.size := by simp
        have hRZ := hRA.below bZ
        have hlZ := hlA.below bZ
        have hzA := Zv_rd uA
        have hzZ := hzA.below bZ
        have HZ : Hid ((wA.alloc (.cells #[.int .i64 0, .int .i64 0, .int .i64 0, .int .i64 0, .int .i64 0] 82)).heap[wA.heap.size]? = some (.cells (five []).toArray 82 (0, 0))) := hZ
        have HKA : Hid (wA.drew.cell? ⟨A, 0, none⟩ = some (.int .i64 (gd p 0)) ∧ wA.drew.cell? ⟨A, 1, none⟩ = some (.int .i64 (gd p 1)) ∧ wA.drew.cell? ⟨A, 2, none⟩ = some (.int .i64 (gd p 2)) ∧ wA.drew.cell? ⟨A, 3, none⟩ = some (.int .i64 (gd p 3)) ∧ wA.drew.cell? ⟨A, 4, none⟩ = some (.int .i64 (gd p 4)) ∧ wA.drew.cell? ⟨B, 0, none⟩ = some (.int .i64 reps) ∧ wA.drew.cell? ⟨B, 1, none⟩ = some (.slice (some ⟨g, 0, none⟩) Q.length c3) ∧ wA.drew.cell? ⟨g, k, none⟩ = some (.slice au p.length cu)) := hK8
        have HKZ : Hid ((wA.alloc (.cells #[.int .i64 0, .int .i64 0, .int .i64 0, .int .i64 0, .int .i64 0] 82)).drew.cell? ⟨A, 0, none⟩ = some (.int .i64 (gd p 0)) ∧ (wA.alloc (.cells #[.int .i64 0, .int .i64 0, .int .i64 0, .int .i64 0, .int .i64 0] 82)).drew.cell? ⟨A, 1, none⟩ = some (.int .i64 (gd p 1)) ∧ (wA.alloc (.cells #[.int .i64 0, .int .i64 0, .int .i64 0, .int .i64 0, .int .i64 0] 82)).drew.cell? ⟨A, 2, none⟩ = some (.int .i64 (gd p 2)) ∧ (wA.alloc (.cells #[.int .i64 0, .int .i64 0, .int .i64 0, .int .i64 0, .int .i64 0] 82)).drew.cell? ⟨A, 3, none⟩ = some (.int .i64 (gd p 3)) ∧ (wA.alloc (.cells #[.int .i64 0, .int .i64 0, .int .i64 0, .int .i64 0, .int .i64 0] 82)).drew.cell? ⟨A, 4, none⟩ = some (.int .i64 (gd p 4)) ∧ (wA.alloc (.cells #[.int .i64 0, .int .i64 0, .int .i64 0, .int .i64 0, .int .i64 0] 82)).drew.cell? ⟨B, 0, none⟩ = some (.int .i64 reps) ∧ (wA.alloc (.cells #[.int .i64 0, .int .i64 0, .int .i64 0, .int .i64 0, .int .i64 0] 82)).drew.cell? ⟨B, 1, none⟩ = some (.slice (some ⟨g, 0, none⟩) Q.length c3) ∧ (wA.alloc (.cells #[.int .i64 0, .int .i64 0, .int .i64 0, .int .i64 0, .int .i64 0] 82)).drew.cell? ⟨g, k, none⟩ = some (.slice au p.length cu)) := keep8 hK8 bZ.drew
        clear hZ hK8
        go_region_held3 (fun wy => wy.cell? ⟨A, 0, none⟩ = some (.int .i64 (gd p 0)) ∧ wy.cell? ⟨A, 1, none⟩ = some (.int .i64 (gd p 1)) ∧ wy.cell? ⟨A, 2, none⟩ = some (.int .i64 (gd p 2)) ∧ wy.cell? ⟨A, 3, none⟩ = some (.int .i64 (gd p 3)) ∧ wy.cell? ⟨A, 4, none⟩ = some (.int .i64 (gd p 4)) ∧ wy.cell? ⟨B, 0, none⟩ = some (.int .i64 reps) ∧ wy.cell? ⟨B, 1, none⟩ = some (.slice (some ⟨g, 0, none⟩) Q.length c3) ∧ wy.cell? ⟨g, k, none⟩ = some (.slice au p.length cu))
          (first | with_reducible exact HK8.out | with_reducible exact HKA.out | with_reducible exact keep8 HKA.out hbO | with_reducible exact HKZ.out | with_reducible exact keep8 HKZ.out hbO | with_reducible exact keep8 HKA.out (behind hbO (bel1 _ _)) | with_reducible exact keep8 HK8.out (below5 (behind bZ.drew hbO) (Nat.le_refl _) _ _ _ _ _) | fail)
          (first | (go_at_call 54; refine (cO _ (by first | exact hRA | exact hRZ) (by first | exact hzA | exact hzZ) (by first | exact hlA | exact hlZ)).mono ?_; rintro e wO ⟨rfl, hbO⟩; (first | (have h5 : wO.heap[wA.heap.size]? = some (.cells (five []).toArray 82 (0, 0)) := ((hbO.block wA.heap.size (by exact hsZ)).trans HZ.out); obtain ⟨⟨k0, k1, k2, k3, k4⟩, l0, l1, l2, l3, l4⟩ := (slot5Of h5).out) | skip)) | fail)
        · go_wp2_with fail
          go_meet
          exact ⟨wO.heap.size, rfl, heapNew wO q 82, behind (behind (Below.refl _ _).drew hbO) (bel1 _ _)⟩
        · go_wp2_with fail
          go_meet
          exact ⟨wA.heap.size, rfl, heap5 h5 q, below5 (behind bZ.drew hbO) (Nat.le_refl _) _ _ _ _ _⟩
      case rest =>
        obtain ⟨Ba, rfl, hBa, hbx⟩ := hcut
        have kx := kA.below hbx
        have rowx := ownOn rowA hbx
        have sx := sA.below hbx
        have ux := ownOn uA hbx
        have Ex := (hEk.below hbA).below hbx
        have hbwx := behind (behind hb hbA) hbx
        have s11 := slot5Of hBa
        obtain ⟨⟨c0, c1, c2, c3', c4⟩, -⟩ := sx.out
        obtain ⟨⟨d0, d1, d2, d3, d4⟩, -⟩ := s11.out
        clear cO hRP hRA hlA kA rowA sA uA hcellA hrowk hu2 sk hEk hbA hbx
        have hgR : wc.grownBy wc (Value.slice au p.length cu).ownBlock := ⟨rfl, rfl, rfl, Nat.le_refl _, fun _ _ _ => rfl⟩
        cases M with
        | none =>
          have hqp : p = q := HQM.out
          subst hqp
          have hE := eqArrSame p
          have FIN : OwnE wc w2.heap.size (some g) vs (R.set k p) Q.length := OwnE.turn Ex (by omega) hlt hu1 hgR ux
          clear Ex hgR HMV
          go_wp2
          go_roundw
          case rel => exact ⟨k + 1, by omega, by go_num, by rw [HST.out]; rfl, kx, rowx, by rw [HST.out]; exact FIN, hbwx⟩
          case measure => simp [intOf]; omega
        | some jx =>
          obtain ⟨j, x⟩ := jx
          obtain ⟨hj, hx⟩ := HMV.out j x rfl
          have hq : p.set j x = q := HQM.out
          have hql : q.length = p.length := by rw [← hq]; simp
          have hne : gd q j ≠ gd p j := by
            rw [← hq, getD_set p j j x hj, if_pos rfl]
            intro e
            exact hx (e ▸ gd_in hj)
          have hE := eqArrOther p q j (by omega) hne
          obtain ⟨gu, rfl⟩ : ∃ gu, au = some ⟨gu, 0, none⟩ := by
            rcases ux.2 with ⟨_, h0⟩ | ⟨g', cap', cur, e, _⟩
            · omega
            · simp only [Value.slice.injEq] at e
              exact ⟨g', e.1⟩
          have hguB : gu < B := hub gu rfl
          have hgug : gu ≠ g := fun e => by
            rcases hu3 with h9 | h9
            · cases h9
            · exact h9 (by rw [e]; rfl)
          have hgu2 := (World.ownsRow.lt ux gu rfl).1
          obtain ⟨cur, hcur, hfit, hrowq, hgq⟩ := ownCopy (w := wc.drew) (q := q) ux hql
          have hsz : (Try.prog.info? 3).map (·.size) = some 1 := by kernel_rfl
          have HN : Hid ((Zv q).length = Nat.min 5 p.length) := by show (Zv q).length = Nat.min 5 p.length; have e : (Zv q).length = p.length := (by simp [Zv, hql]); rw [e]; exact (Nat.min_eq_right hp5).symm
          have HSR : Hid (∀ j v, (Zv q)[j]? = some v → wc.cell? ((⟨Ba, 0, none⟩ : Addr).add j) = some v) := by
            intro j v hj
            have hjl : j < q.length := by
              have := (List.getElem?_eq_some_iff.1 hj).1
              simpa [Zv] using this
            have hu : v = .int .i64 (gd q j) := by
              unfold gd
              rw [List.getD_eq_getElem?_getD, List.getElem?_eq_getElem hjl]
              simp [Zv, hjl] at hj
              exact hj.symm
            rw [hu, Addr.add_lit, Nat.zero_add]
            exact (s11 j (by omega)).1
          have hcellx := rowx.cellAt k (by have := rowx.1; omega)
          rw [hu1] at hcellx
          have HC : Hid (wc.heap[gu]? = some (.cells cur 3 (0, 0))) := hcur
          have HFt : Hid (0 + (Zv q).length ≤ cur.size) := hfit
          obtain ⟨wy, hwy⟩ : ∃ wy, wc.drew.setRow gu (cur.toList.take 0 ++ Zv q ++ cur.toList.drop (0 + (Zv q).length)).toArray = wy := ⟨_, rfl⟩
          have HWY : Hid (wc.drew.setRow gu (cur.toList.take 0 ++ Zv q ++ cur.toList.drop (0 + (Zv q).length)).toArray = wy) := hwy
          rw [hwy] at hrowq hgq
          have hgq' : wc.grownBy wy (some gu) := ⟨hgq.os, hgq.tape, hgq.output, hgq.size, hgq.block⟩
          have ky := Slot2.grown kx hgq' (by simp only [ne_eq, Option.some.injEq]; omega)
          have rowy := World.ownsRow.kept rowx hgq' (.inr (by simp only [Value.ownBlock, ne_eq, Option.some.injEq]; exact fun e => hgug e.symm))
          have Ey : OwnE wy w2.heap.size (some g) vs (R.set k q) Q.length := OwnE.turn Ex (by omega) hlt hu1 hgq' (by rw [hql]; exact hrowq)
          have hby : Below w2.heap.size w2 wy := hbwx.grown hgq' hbwx.size (fun j e => by cases e; exact hgu2)
          clear hwy hcur hfit hgq hgq' hgR Ex ux HMV hq hx hne hrowq
          go_upto_region 12 with fail
          go_region_law (first | (refine step_copyR (by rfl) (.tmp 46) (.tmp 47) 32 32 (by rfl) 3 Try.underlying32 hsz gu 0 p.length cu ⟨Ba, 0, none⟩ 5 5 (by rfl) (by rfl) cur 3 (by exact HC.out) (Zv q) HN.out (by exact HSR.out) HFt.out (Zv_cell q) ?_; rw [HWY.out]) | fail)
          all_goals
            clear c0 c1 c2 c3' c4 d0 d1 d2 d3 d4 hcellx kx rowx
            go_wp2
            go_roundw
            case rel => exact ⟨k + 1, by omega, by go_num, by rw [HST.out]; go_num, ky, rowy, by rw [HST.out]; exact Ey, hby⟩
            case measure => simp [intOf]; omega
    · have hke : k = Q.length := by omega
      subst hke
      have r5 := r0.below hb
      obtain ⟨⟨t0, t1⟩, t2, t3⟩ := id r5
      have hO : OwnP wr w2.heap.size (.slice (some ⟨g, 0, none⟩) Q.length c3) (Rg.rebK l Q Q.length).1 := ⟨vs, by rw [Rg.rebK_len]; exact hrowk, by rw [Rg.rebK_len]; exact hEk⟩
      rw [HG.out] at hO ⊢
      clear hrowk hEk
      go_wp2
      have e0 : ((wr.setCell ⟨w.heap.size + 1, 0, none⟩ (.int .i64 reps)).setCell ⟨w.heap.size + 1, 1, none⟩ (.slice (some ⟨g, 0, none⟩) Q.length c3)).cell? ⟨w.heap.size + 1, 0, none⟩ = some (.int .i64 reps) := by
        rw [World.cell?_setCell_other _ _ _ _ (by simp)]
        exact World.cell?_setCell_same' _ _ _ (by rw [t0]; rfl)
      have e1 : ((wr.setCell ⟨w.heap.size + 1, 0, none⟩ (.int .i64 reps)).setCell ⟨w.heap.size + 1, 1, none⟩ (.slice (some ⟨g, 0, none⟩) Q.length c3)).cell? ⟨w.heap.size + 1, 1, none⟩ = some (.slice (some ⟨g, 0, none⟩) Q.length c3) :=
        World.cell?_setCell_same' _ _ _ (by rw [World.cell?_setCell_other _ _ _ _ (by simp), t1]; rfl)
      refine bodyPost_ret (v := .tuple #[.agg #[.int .i64 reps, .slice (some ⟨g, 0, none⟩) Q.length c3], .int .i64 (G.2 : Int)]) (by simp [results, Try.results25, go_sem, e0, e1]) rfl ⟨some ⟨g, 0, none⟩, c3, rfl, ?_, ?_⟩
      · exact ((hO.far (by omega)).far (by omega)).mono (by omega)
      · exact ((behind hB0 hb).setCell (by show w.heap.size ≤ w.heap.size + 1; omega) _).setCell (by show w.heap.size ≤ w.heap.size + 1; omega) _
end Go.Proofs.Ytoemblcheahbeac.Wk
