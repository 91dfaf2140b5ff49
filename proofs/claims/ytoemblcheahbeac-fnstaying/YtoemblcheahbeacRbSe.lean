/- What Rebalance of the specification comes to. -/
import Derived.Test.YtoemblcheahbeacRbSa
import Derived.Test.YtoemblcheahbeacRbSb
import Derived.Test.YtoemblcheahbeacRbSc
import Derived.Test.YtoemblcheahbeacRbSd
import Derived.Test.YtoemblcheahbeacRbW
import Derived.Test.YtoemblcheahbeacRgK
import Derived.Test.YtoemblcheahbeacBsS
import Derived.Deep.RegionHeld3
import Derived.Deep.CutBlock
import Derived.Deep.DeepCutAuto
namespace Go.Proofs.Ytoemblcheahbeac.Wk
set_option linter.unusedVariables false
open Go.ChangeShapes Go.WideShapes Go.ChangeAt Go.RowKit

theorem own_farS {w : World} {base n c H : Nat} {a : Option Addr} {l : List Int} {u : Value} (ho : w.ownsRow base 3 1 (.slice a n c) n (Zv l)) (hl : l.length = n) (hk : w.cell? ⟨H, 0, none⟩ = some (.slice none 0 0)) : RdZ (w.setCell ⟨H, 0, none⟩ u) a l := by
  subst hl
  have hr := Zv_rd ho
  intro i hi
  obtain ⟨b, off, rfl, hc⟩ := hr i hi
  have hbH : b ≠ H := by
    rintro rfl
    obtain ⟨b', off', e, hc0⟩ := hr 0 (by omega)
    have h9 : off' = 0 := by
      rcases ho.2 with ⟨e9, _⟩ | ⟨g', cap', cur, e9, _⟩
      · simp at e9
      · simp only [Value.slice.injEq] at e9
        rw [e9.1] at e
        cases e
        rfl
    subst h9
    cases e
    rw [Nat.add_zero, hk] at hc0
    cases hc0
  exact ⟨b, off, rfl, by rw [World.cell?_setCell_other _ _ _ _ (fun e => hbH (congrArg Addr.block e).symm)]; exact hc⟩

set_option maxHeartbeats 4000000 in
set_option maxRecDepth 100000 in
theorem specRebNo (reps : Int) (a c : Option Addr) (ca cc : Nat) (Q : List (List Int)) (l : List Sm.St) (w : World) (hQ : Q.length ≤ 1048576) (ht : tot Q ≤ 1048576) (hl : l.length ≤ 1048576) (hr : RdN w a Q) (hs : RdS w c l) (hno : Rg.movB reps Q l = false) :
    Calls Try.prog 26 #[.agg #[.int .i64 reps, .slice a Q.length ca], .slice c l.length cc] w fun e w' => ∃ (a' : Option Addr) (ca' : Nat), e = .returned (.tuple #[.agg #[.int .i64 reps, .slice a' Q.length ca'], .int .i64 (-1)]) ∧
      OwnP w' w.heap.size (.slice a' Q.length ca') Q ∧ Below w.heap.size w w' := by
  have hpp : ∀ p ∈ Q, p.length ≤ 1048576 := fun p h => Nat.le_trans (tot_mem h) ht
  have cM := fun a' ca' w' h1 h2 => specMov reps a' c ca' cc Q l w' hQ hpp hl h1 h2
  rw [hno] at cM
  have s0 := (slot2New w (.int .i64 reps) (.slice a Q.length ca) 29).below (bel1 _ (.cells #[.int .i64 0, .slice none 0 0] 29))
  have r0 := slot2New (w.alloc (.cells #[.int .i64 reps, .slice a Q.length ca] 29)) (.int .i64 0) (.slice none 0 0) 29
  have hB0 := bel2 w (.cells #[.int .i64 reps, .slice a Q.length ca] 29) (.cells #[.int .i64 0, .slice none 0 0] 29)
  have hr0 := hr.below hB0
  have hs0 := hs.below hB0
  have hz0 : ((w.alloc (.cells #[.int .i64 reps, .slice a Q.length ca] 29)).alloc (.cells #[.int .i64 0, .slice none 0 0] 29)).heap.size = w.heap.size + 2 := by simp
  rw [World.size_alloc] at r0
  go_enter Try.func26, Try.ntmps26
  go_wp2_with fail
  generalize (w.alloc (.cells #[.int .i64 reps, .slice a Q.length ca] 29)).alloc (.cells #[.int .i64 0, .slice none 0 0] 29) = w2 at s0 r0 hB0 hr0 hs0 hz0 ⊢
  refine (specCopy reps a ca Q _ hQ hpp hr0).mono ?_
  rintro e w3 ⟨a3, c3, rfl, hO3, hb3⟩
  have bN := bel1 w3 (.cells #[.int .i64 reps, .slice a3 Q.length c3] 29)
  have n0 := slot2New w3 (.int .i64 reps) (.slice a3 Q.length c3) 29
  have hb4 := behind hb3 bN
  have s4 := s0.below hb4
  have r4 := r0.below hb4
  have hB4 := behind hB0 hb4
  have hO4 := hO3.below bN
  have hr4 := hr0.below hb4
  have hs4 := hs0.below hb4
  obtain ⟨⟨x0, x1⟩, -⟩ := id s4
  go_wp2_with fail
  generalize w3.alloc (.cells #[.int .i64 reps, .slice a3 Q.length c3] 29) = w4 at bN n0 hb4 s4 r4 hB4 hO4 hr4 hs4 x0 x1 ⊢
  refine (cM _ _ _ hr4.rd hs4).mono ?_
  rintro e w5 ⟨rfl, hb5⟩
  have r5 := r4.below hb5
  have n5 := n0.below hb5
  have hO5 := hO4.below hb5
  have hB5 := behind hB4 hb5
  obtain ⟨⟨t0, t1⟩, t2, t3⟩ := id r5
  obtain ⟨⟨y0, y1⟩, -⟩ := id n5
  clear x0 x1 cM s0 s4 r0 r4
  go_wp2
  have e0 : ((w5.setCell ⟨w.heap.size + 1, 0, none⟩ (.int .i64 reps)).setCell ⟨w.heap.size + 1, 1, none⟩ (.slice a3 Q.length c3)).cell? ⟨w.heap.size + 1, 0, none⟩ = some (.int .i64 reps) := by
    rw [World.cell?_setCell_other _ _ _ _ (by simp)]
    exact World.cell?_setCell_same' _ _ _ (by rw [t0]; rfl)
  have e1 : ((w5.setCell ⟨w.heap.size + 1, 0, none⟩ (.int .i64 reps)).setCell ⟨w.heap.size + 1, 1, none⟩ (.slice a3 Q.length c3)).cell? ⟨w.heap.size + 1, 1, none⟩ = some (.slice a3 Q.length c3) :=
    World.cell?_setCell_same' _ _ _ (by rw [World.cell?_setCell_other _ _ _ _ (by simp), t1]; rfl)
  refine bodyPost_ret (v := .tuple #[.agg #[.int .i64 reps, .slice a3 Q.length c3], .int .i64 (-1)]) (by simp [results, Try.results26, go_sem, e0, e1]) rfl ⟨a3, c3, rfl, ?_, ?_⟩
  · exact ((hO5.far (by omega)).far (by omega)).mono (by omega)
  · exact (hB5.setCell (by show w.heap.size ≤ w.heap.size + 1; omega) _).setCell (by show w.heap.size ≤ w.heap.size + 1; omega) _

set_option maxHeartbeats 8000000 in
set_option maxRecDepth 100000 in
theorem specRebYes (reps : Int) (a c : Option Addr) (ca cc : Nat) (Q : List (List Int)) (l : List Sm.St) (w : World) (hr : RdN w a Q) (hs : RdS w c l) (hyes : Rg.movB reps Q l = true) :
    Calls Try.prog 26 #[.agg #[.int .i64 reps, .slice a Q.length ca], .slice c l.length cc] w fun e w' => ∃ (a' : Option Addr) (ca' : Nat), e = .returned (.tuple #[.agg #[.int .i64 reps, .slice a' Q.length ca'], .int .i64 ((Rg.rebK l Q Q.length).2 : Int)]) ∧
      OwnP w' w.heap.size (.slice a' Q.length ca') (Rg.rebK l Q Q.length).1 ∧ Below w.heap.size w w' := by
  obtain ⟨hd, ⟨hr1, hr5⟩, ⟨hq1, hq64⟩, hrl⟩ := Rg.mov_head hyes
  have hev := Rg.mov_each hyes
  have hQ : Q.length ≤ 1048576 := by omega
  obtain ⟨⟨hl1, hl12⟩, -⟩ := Dv.devs_dev hd
  have hl : l.length ≤ 1048576 := by omega
  have hpl : ∀ q ∈ Q, 1 ≤ q.length ∧ q.length ≤ 5 := fun q hq => by have := (hev q hq).2; omega
  have hpp : ∀ p ∈ Q, p.length ≤ 1048576 := fun p h => by have := hpl p h; omega
  have HR : Hid (∀ k, k ≤ Q.length → tot (Rg.rebK l Q k).1 ≤ 1048576) := fun k hk => by
    have h5 : ∀ q ∈ (Rg.rebK l Q k).1, q.length ≤ 5 := Rg.rebK_each (φ := fun q => q.length ≤ 5) (fun q hq => (hpl q hq).2) (fun R q hq => by rw [Rg.mvTo_len]; exact (hpl q hq).2) k hk
    have h6 : ∀ (ps : List (List Int)), (∀ q ∈ ps, q.length ≤ 5) → tot ps ≤ ps.length * 5 := by
      intro ps
      induction ps with
      | nil => intro _; simp [tot]
      | cons a r ih =>
        intro h
        have h1 := ih (fun q hq => h q (List.mem_cons_of_mem _ hq))
        have h2 := h a List.mem_cons_self
        simp only [tot, List.map_cons, List.sum_cons, List.length_cons] at h1 ⊢
        omega
    have := h6 _ h5
    rw [Rg.rebK_len] at this
    omega
  have HQ : Hid (∀ q ∈ Q, q.Nodup ∧ (q.length : Int) = reps) := hev
  have HP : Hid (∀ q ∈ Q, 1 ≤ q.length ∧ q.length ≤ 5) := hpl
  have HD : Hid (Dv.devs l = true) := hd
  have cM := fun a' ca' w' h1 h2 => specMov reps a' c ca' cc Q l w' hQ hpp hl h1 h2
  rw [hyes] at cM
  obtain ⟨G, hG⟩ : ∃ G, Rg.rebK l Q Q.length = G := ⟨_, rfl⟩
  have HG : Hid (Rg.rebK l Q Q.length = G) := hG
  rw [hG]
  clear hd hev hpl hyes hG
  have s0 := (slot2New w (.int .i64 reps) (.slice a Q.length ca) 29).below (bel1 _ (.cells #[.int .i64 0, .slice none 0 0] 29))
  have r0 := slot2New (w.alloc (.cells #[.int .i64 reps, .slice a Q.length ca] 29)) (.int .i64 0) (.slice none 0 0) 29
  have hB0 := bel2 w (.cells #[.int .i64 reps, .slice a Q.length ca] 29) (.cells #[.int .i64 0, .slice none 0 0] 29)
  have hr0 := hr.below hB0
  have hs0 := hs.below hB0
  have hz0 : ((w.alloc (.cells #[.int .i64 reps, .slice a Q.length ca] 29)).alloc (.cells #[.int .i64 0, .slice none 0 0] 29)).heap.size = w.heap.size + 2 := by simp
  rw [World.size_alloc] at r0
  go_enter Try.func26, Try.ntmps26
  go_wp2_with fail
  generalize (w.alloc (.cells #[.int .i64 reps, .slice a Q.length ca] 29)).alloc (.cells #[.int .i64 0, .slice none 0 0] 29) = w2 at s0 r0 hB0 hr0 hs0 hz0 ⊢
  refine (specCopy reps a ca Q _ hQ hpp hr0).mono ?_
  rintro e w3 ⟨a3, c3, rfl, hO3, hb3⟩
  have bN := bel1 w3 (.cells #[.int .i64 reps, .slice a3 Q.length c3] 29)
  have n0 := slot2New w3 (.int .i64 reps) (.slice a3 Q.length c3) 29
  have hb4 := behind hb3 bN
  have s4 := s0.below hb4
  have hr4 := hr0.below hb4
  have hs4 := hs0.below hb4
  obtain ⟨vs, hrow3, hE3⟩ := hO3
  have hrow4 := ownOn hrow3 bN
  have hE4 := hE3.below bN
  have HF : Hid (∀ i u, i < Q.length → vs[i]? = some u → ∀ j, u.ownBlock = some j → j < w3.heap.size) := fun i u hi h j e => by
    obtain ⟨x, e1, e2, -⟩ := hE3.1 i hi hi
    rw [h] at e1
    have := Option.some.inj e1
    subst this
    exact (World.ownsRow.lt e2 j e).2
  obtain ⟨g, rfl⟩ : ∃ g, a3 = some ⟨g, 0, none⟩ := by
    rcases hrow3.2 with ⟨_, h0⟩ | ⟨g, cap', cur, e, _⟩
    · omega
    · simp only [Value.slice.injEq] at e
      exact ⟨g, e.1⟩
  have hg3 := (World.ownsRow.lt hrow3 g rfl)
  obtain ⟨⟨x0, x1⟩, -⟩ := id s4
  obtain ⟨B, hB⟩ : ∃ B, w3.heap.size = B := ⟨_, rfl⟩
  rw [hB] at n0 HF hg3
  clear hrow3 hE3
  go_wp2_with fail
  generalize w3.alloc (.cells #[.int .i64 reps, .slice (some ⟨g, 0, none⟩) Q.length c3] 29) = w4 at bN n0 hb4 s4 hr4 hs4 hrow4 hE4 x0 x1 ⊢
  refine (cM _ _ _ hr4.rd hs4).mono ?_
  rintro e w5 ⟨rfl, hb5⟩
  have n5 := n0.below hb5
  have hrow5 := ownOn hrow4 hb5
  have hE5 := hE4.below hb5
  have hb25 := behind hb4 hb5
  obtain ⟨⟨y0, y1⟩, -⟩ := id n5
  have hs5' := hs0
  clear x0 x1 cM s0 s4 n0 hr0 hr4 hrow4 hE4 hs4 hb4 hb5 bN
  go_wp2
  clear y0 y1
  clear hB
  go_loopw [7, 8] (fun n i wr => ∃ k : Nat, k ≤ Q.length ∧ i = .int .i64 k ∧ n = .int .i64 ((Rg.rebK l Q k).2 : Int) ∧ Slot2 wr B (.int .i64 reps) (.slice (some ⟨g, 0, none⟩) Q.length c3) ∧ wr.ownsRow w2.heap.size 36 1 (.slice (some ⟨g, 0, none⟩) Q.length c3) Q.length vs ∧ OwnE wr w2.heap.size (some g) vs (Rg.rebK l Q k).1 Q.length ∧ Below w2.heap.size w2 wr) (fun _ i _ => Q.length - (intOf i).toNat)
  case atStart => exact ⟨0, Nat.zero_le _, rfl, rfl, n5, hrow5, hE5, hb25⟩
  case round =>
    obtain ⟨k, hk, rfl, rfl, sk, hrowk, hEk, hb⟩ := hrel
    clear n5 hrow5 hE5 hb25
    obtain ⟨⟨y0, y1⟩, -⟩ := id sk
    by_cases hlt : k < Q.length
    · have hRl : (Rg.rebK l Q k).1.length = Q.length := Rg.rebK_len l Q k
      have hnk : (Rg.rebK l Q k).2 ≤ k := Rg.rebK_le l Q k
      have htk := HR.out k hk
      obtain ⟨hnd, hln⟩ := HQ.out Q[k] (List.getElem_mem hlt)
      obtain ⟨hp1, hp5⟩ := HP.out Q[k] (List.getElem_mem hlt)
      have HST : Hid (Rg.rebK l Q (k + 1) = ((Rg.rebK l Q k).1.set k (Rg.mvTo Q[k] (Rg.mvOne (Rg.rebK l Q k).1 l Q[k])), (Rg.rebK l Q k).2 + Rg.mvN (Rg.mvOne (Rg.rebK l Q k).1 l Q[k]))) := Rg.rebK_step hlt
      have hRk : (Rg.rebK l Q k).1[k]'(by omega) = Q[k] := Rg.rebK_at hlt (by omega)
      have HMV : Hid (∀ j x, Rg.mvOne (Rg.rebK l Q k).1 l Q[k] = some (j, x) → j < Q[k].length ∧ x ∉ Q[k] ∧ 0 ≤ x) := fun j x h => by
        have := Rg.mvOne_is HD.out hnd (by omega) h
        exact ⟨this.1, this.2.1, this.2.2.1⟩
      obtain ⟨u, hu1, hu2, hu3⟩ := hEk.1 k (by omega) (by omega)
      have hub := HF.out k u hlt hu1
      rw [hRk] at hu2
      obtain ⟨au, cu, rfl⟩ := Zv_shape hu2
      have hRP : RdP wr (some ⟨g, 0, none⟩) (Rg.rebK l Q k).1 := (show OwnP wr w2.heap.size (.slice (some ⟨g, 0, none⟩) Q.length c3) (Rg.rebK l Q k).1 from ⟨vs, by rw [hRl]; exact hrowk, by rw [hRl]; exact hEk⟩).rdS
      have hcell := hrowk.cellAt k (by have := hrowk.1; omega)
      rw [hu1] at hcell
      have hsr := hs5'.below hb
      have HST2 : Hid (∀ M, Rg.mvOne (Rg.rebK l Q k).1 l Q[k] = M → Rg.rebK l Q (k + 1) = ((Rg.rebK l Q k).1.set k (Rg.mvTo Q[k] M), (Rg.rebK l Q k).2 + Rg.mvN M)) := fun M h => by rw [← h]; exact HST.out
      clear hRk hln HST
      generalize (Rg.rebK l Q k).2 = n at HST2 hnk
      generalize (Rg.rebK l Q k).1 = R at HST2 hRl htk HMV hEk hRP
      generalize Q[k] = p at HST2 hnd hp1 hp5 HMV hu1 hu2 hu3 hub hcell
      obtain ⟨gu, rfl⟩ : ∃ gu, au = some ⟨gu, 0, none⟩ := by
        rcases hu2.2 with ⟨_, h0⟩ | ⟨g', cap', cur, e, _⟩
        · omega
        · simp only [Value.slice.injEq] at e
          exact ⟨g', e.1⟩
      have hguB : gu < B := hub gu rfl
      have hgug : gu ≠ g := fun e => by
        rcases hu3 with h9 | h9
        · cases h9
        · exact h9 (by rw [e]; rfl)
      have hgu2 := (World.ownsRow.lt hu2 gu rfl).1
      have hcu := own_cap hu2
      have cL := fun (w' : World) (h : RdZ w' (some ⟨gu, 0, none⟩) p) (h3 : RdS w' c l) => specLost (some ⟨gu, 0, none⟩) c cu cc p l w' (by omega) hl h h3
      have bP := bel1 wr (.cells #[.slice (some ⟨gu, 0, none⟩) p.length cu] 36)
      have sP := slot1New wr (.slice (some ⟨gu, 0, none⟩) p.length cu) 36
      obtain ⟨P, hP⟩ : ∃ P, wr.heap.size = P := ⟨_, rfl⟩
      rw [hP] at sP
      go_upto_region 9 with fail
      generalize wr.alloc (.cells #[.slice (some ⟨gu, 0, none⟩) p.length cu] 36) = wP at bP sP ⊢
      have kP := sk.below bP
      have rowP := ownOn hrowk bP
      have uP := ownOn hu2 bP
      have EP := hEk.below bP
      have RP := hRP.below bP
      have lP := hsr.below bP
      have hbP := behind hb bP
      obtain ⟨p0, -⟩ := id sP
      clear sk hrowk hu2 hEk hRP hsr bP y0 y1 hcell hP
      cases hg : p.findIdx? (Rg.lostB l) with
      | some j =>
        obtain ⟨hj, -⟩ := Rg.find_lt hg
        have hM : Rg.mvOne R l p = some (j, Rg.best R (p.eraseIdx j) l) := by unfold Rg.mvOne; rw [hg]
        rw [hg] at cL
        dsimp only [Rg.idxI] at cL
        have hel : (p.eraseIdx j).length ≤ 1048576 := by have := List.length_eraseIdx_le p j; omega
        have cB := fun (b5 : Option Addr) (c5 : Nat) (w' : World) (h1 : RdP w' (some ⟨g, 0, none⟩) R) (h2 : RdZ w' b5 (p.eraseIdx j)) (h3 : RdS w' c l) => specBest reps (some ⟨g, 0, none⟩) b5 c c3 c5 cc R (p.eraseIdx j) l w' (by omega) htk hel hl h1 h2 h3
        have HX := HST2.out _ hM
        obtain ⟨-, hx, hx0⟩ := HMV.out _ _ hM
        generalize Rg.best R (p.eraseIdx j) l = x at cB HX hx hx0
        rw [hRl] at cB
        have HST : Hid (Rg.rebK l Q (k + 1) = (R.set k (Rg.mvTo p (some (j, x))), n + Rg.mvN (some (j, x)))) := HX
        clear HX hM HST2 HMV hg
        have hj0 : (0 : Int) ≤ (j : Int) := by omega
        go_wp2_with fail
        refine (cL _ (Zv_rd uP) lP).mono ?_
        rintro e wL ⟨rfl, hbL⟩
        have sP := sP.below hbL
        have kL := kP.below hbL
        have rowL := ownOn rowP hbL
        have uL := ownOn uP hbL
        have EL := EP.below hbL
        have RL := RP.below hbL
        have lL := lP.below hbL
        have hbL' := behind hbP hbL
        clear kP rowP uP EP RP lP hbP p0 hbL cL
        obtain ⟨p0, -⟩ := id sP
        go_upto_region 12 with fail
        have htl : (p.take j).length = j := by rw [List.length_take]; omega
        have hdl : (p.drop (j + 1)).length = p.length - (j + 1) := List.length_drop
        have hfl : p.take j ++ p.drop (j + 1) = p.eraseIdx j := (List.eraseIdx_eq_take_drop_succ p j).symm
        have hj1 : (0 : Int) ≤ (j : Int) + 1 := by omega
        have hj2 : (j : Int) + 1 ≤ (p.length : Int) := by omega
        have hj3 : (j : Int) ≤ (cu : Int) := by omega
        have hcuc : cu = j + 1 ∨ j + 1 < cu := by omega
        have zL := Zv_rd uL
        go_cut [12] (fun v wx => ∃ (Bo : Nat) (ao : Option Addr) (co : Nat), v = .pointer (some ⟨Bo, 0, none⟩) ∧ wx.cell? ⟨Bo, 0, none⟩ = some (.slice ao (p.eraseIdx j).length co) ∧ RdZ wx ao (p.eraseIdx j) ∧ Below wL.heap.size wL wx)
        case first =>
          have b1 : Below wL.heap.size wL (wL.alloc (.cells #[] 3)).drew := (bel1 wL _).drew
          have b2 : Below wL.heap.size wL ((wL.alloc (.cells #[] 3)).alloc (.cells #[.slice none 0 0] 36)).drew := (bel2 wL _ _).drew
          have b3 : Below wL.heap.size wL ((wL.alloc (.cells #[.slice none 0 0] 36)).alloc (.cells #[] 3)).drew := (bel2 wL _ _).drew
          have b4 : Below wL.heap.size wL (wL.alloc (.cells #[.slice none 0 0] 36)).drew := (bel1 wL _).drew
          have e1 : (wL.alloc (.cells #[] 3)).drew.ownsRow wL.heap.size 3 1 (.slice (some ⟨wL.heap.size, 0, none⟩) 0 0) ([] : List Int).length (Zv []) := emptyB wL _ (Nat.le_refl _)
          have e2 : ((wL.alloc (.cells #[] 3)).alloc (.cells #[.slice none 0 0] 36)).drew.ownsRow wL.heap.size 3 1 (.slice (some ⟨wL.heap.size, 0, none⟩) 0 0) ([] : List Int).length (Zv []) := World.ownsRow.alloc (emptyB wL _ (Nat.le_refl _)) _
          have e3 : ((wL.alloc (.cells #[.slice none 0 0] 36)).alloc (.cells #[] 3)).drew.ownsRow wL.heap.size 3 1 (.slice (some ⟨wL.heap.size + 1, 0, none⟩) 0 0) ([] : List Int).length (Zv []) := by
            have h := emptyB (wL.alloc (.cells #[.slice none 0 0] 36)) wL.heap.size (by simp)
            rw [World.size_alloc] at h
            exact h
          have z0 : RdZ wL (some ⟨gu, 0, none⟩) (p.take j) := zL.take j
          have z1 : RdZ (wL.alloc (.cells #[] 3)).drew (some ⟨gu, 0, none⟩) (p.take j) := z0.below b1
          have z2 : RdZ ((wL.alloc (.cells #[] 3)).alloc (.cells #[.slice none 0 0] 36)).drew (some ⟨gu, 0, none⟩) (p.take j) := z0.below b2
          have z3 : RdZ ((wL.alloc (.cells #[.slice none 0 0] 36)).alloc (.cells #[] 3)).drew (some ⟨gu, 0, none⟩) (p.take j) := z0.below b3
          have x2 : Slot1 ((wL.alloc (.cells #[] 3)).alloc (.cells #[.slice none 0 0] 36)) (wL.heap.size + 1) (.slice none 0 0) := by
            have h := slot1New (wL.alloc (.cells #[] 3)) (.slice none 0 0) 36
            rw [World.size_alloc] at h
            exact h
          have x3 : Slot1 ((wL.alloc (.cells #[.slice none 0 0] 36)).alloc (.cells #[] 3)) wL.heap.size (.slice none 0 0) := (slot1New wL (.slice none 0 0) 36).below (bel1 _ _)
          have q0 : wL.cell? ⟨P, 0, none⟩ = some (.slice (some ⟨gu, 0, none⟩) p.length cu) := p0
          have HQ0 : Hid (wL.cell? ⟨P, 0, none⟩ = some (.slice (some ⟨gu, 0, none⟩) p.length cu)) := q0
          have HQ1 : Hid (wL.drew.cell? ⟨P, 0, none⟩ = some (.slice (some ⟨gu, 0, none⟩) p.length cu)) := q0
          have HQE : Hid ((wL.alloc (.cells #[] 3)).drew.cell? ⟨P, 0, none⟩ = some (.slice (some ⟨gu, 0, none⟩) p.length cu)) := cellOn q0 b1
          have HQX : Hid ((wL.alloc (.cells #[.slice none 0 0] 36)).drew.cell? ⟨P, 0, none⟩ = some (.slice (some ⟨gu, 0, none⟩) p.length cu)) := cellOn q0 b4
          have HQEX : Hid (((wL.alloc (.cells #[] 3)).alloc (.cells #[.slice none 0 0] 36)).drew.cell? ⟨P, 0, none⟩ = some (.slice (some ⟨gu, 0, none⟩) p.length cu)) := cellOn q0 b2
          have HQXE : Hid (((wL.alloc (.cells #[.slice none 0 0] 36)).alloc (.cells #[] 3)).drew.cell? ⟨P, 0, none⟩ = some (.slice (some ⟨gu, 0, none⟩) p.length cu)) := cellOn q0 b3
          obtain ⟨ad, had⟩ : ∃ ad : Option Addr, (if cu = j + 1 then some ⟨gu, 0, none⟩ else some ⟨gu, j + 1, none⟩) = ad := ⟨_, rfl⟩
          have HADN : Hid (ad ≠ none) := by show ad ≠ none; rw [← had]; split <;> exact fun e => by cases e
          have zD : ∀ w', Below wL.heap.size wL w' → RdZ w' ad (p.drop (j + 1)) := by
            intro w' hb'
            rw [← had]
            split
            · intro i hi
              rw [List.length_drop] at hi
              omega
            · intro i hi
              rw [List.length_drop] at hi
              obtain ⟨b', off', e, hc⟩ := (zL.below hb') (j + 1 + i) (by omega)
              simp only [Option.some.injEq, Addr.mk.injEq, and_true] at e
              obtain ⟨rfl, rfl⟩ := e
              refine ⟨gu, j + 1, rfl, ?_⟩
              rw [List.getElem_drop]
              rw [Nat.zero_add] at hc
              exact hc
          clear q0 z0
          have hj4 : (j : Int) + 1 ≤ (cu : Int) := by omega
          have hw1 : IntKind.i64.wrap ((j : Int) + 1) = (j : Int) + 1 := wrapH _ (by omega) (by omega)
          clear hcuc
          go_region_held3 (fun wy => wy.cell? ⟨P, 0, none⟩ = some (.slice (some ⟨gu, 0, none⟩) p.length cu)) (first | with_reducible exact HQ0.out | with_reducible exact HQ1.out | with_reducible exact HQE.out | with_reducible exact HQX.out | with_reducible exact HQEX.out | with_reducible exact HQXE.out | with_reducible exact cellOn HQ0.out hb8 | with_reducible exact cellOn HQ0.out (behind hb8 (bel1 _ _)) | with_reducible exact cellOn HQ0.out hb7 | with_reducible exact cellOn HQ0.out (behind hb7 (bel1 _ _)) | exact cellOn HQ0.out (Below.setCell hb8 (by dsimp only; omega) _) | fail) (first | (refine step_appL _ (by rfl) (.tmp 37) (.tmp 41) (by rfl) wL b1 _ [] (by rfl) e1 (some ⟨gu, 0, none⟩) cu (p.take j) (by rw [htl]; rfl) z1 (fun e => by cases e) (by rw [htl]; simp; omega) ?_; intro v1 w7 hown7 hg7 hat7 hb7; simp only [List.nil_append] at hown7; have hz7 := hg7.size; have hzL := hb7.size; skip) | (refine step_appL _ (by rfl) (.tmp 37) (.tmp 41) (by rfl) wL b2 _ [] (by rfl) e2 (some ⟨gu, 0, none⟩) cu (p.take j) (by rw [htl]; rfl) z2 (fun e => by cases e) (by rw [htl]; simp; omega) ?_; intro v1 w7 hown7 hg7 hat7 hb7; simp only [List.nil_append] at hown7; have hz7 := hg7.size; have hzL := hb7.size; have x7 : Slot1 w7 (wL.heap.size + 1) (.slice none 0 0) := Slot1.grw (w := ((wL.alloc (.cells #[] 3)).alloc (.cells #[.slice none 0 0] 36)).drew) x2 hg7 (by simp only [Value.ownBlock, ne_eq, Option.some.injEq]; omega); obtain ⟨k7, f7⟩ := id x7) | (refine step_appL _ (by rfl) (.tmp 37) (.tmp 41) (by rfl) wL b3 _ [] (by rfl) e3 (some ⟨gu, 0, none⟩) cu (p.take j) (by rw [htl]; rfl) z3 (fun e => by cases e) (by rw [htl]; simp; omega) ?_; intro v1 w7 hown7 hg7 hat7 hb7; simp only [List.nil_append] at hown7; have hz7 := hg7.size; have hzL := hb7.size; have x7 : Slot1 w7 wL.heap.size (.slice none 0 0) := Slot1.grw (w := ((wL.alloc (.cells #[.slice none 0 0] 36)).alloc (.cells #[] 3)).drew) x3 hg7 (by simp only [Value.ownBlock, ne_eq, Option.some.injEq]; omega); obtain ⟨k7, f7⟩ := id x7) | (refine step_appL (w7.alloc (.cells #[.slice none 0 0] 36)) (by rfl) (.tmp 42) (.tmp 47) (by rfl) wL (behind hb7 (bel1 w7 (.cells #[.slice none 0 0] 36))) v1 (p.take j) (by rfl) (World.ownsRow.alloc hown7 (.cells #[.slice none 0 0] 36)) ad (cu - (j + 1)) (p.drop (j + 1)) (by rw [hdl]; rfl) (RdZ.below (zD w7 hb7) (bel1 w7 (.cells #[.slice none 0 0] 36))) (fun e => absurd e HADN.out) (by rw [htl, hdl]; omega) ?_; intro v2 w8 hown8 hg8 hat8 hb8; rw [hfl] at hown8; obtain ⟨a8, c8, rfl⟩ := Zv_shape hown8; have x8 := Slot1.grw (slot1New w7 (.slice none 0 0) 36) hg8 (fun e => by have h9 := (World.ownsRow.lt hown7 _ e.symm).2; omega); obtain ⟨k8, f8⟩ := id x8) | (refine step_appL _ (by rfl) (.tmp 42) (.tmp 47) (by rfl) wL hb7 v1 (p.take j) (by rfl) hown7 ad (cu - (j + 1)) (p.drop (j + 1)) (by rw [hdl]; rfl) (zD w7 hb7) (fun e => absurd e HADN.out) (by rw [htl, hdl]; omega) ?_; intro v2 w8 hown8 hg8 hat8 hb8; rw [hfl] at hown8; obtain ⟨a8, c8, rfl⟩ := Zv_shape hown8; (first | (have x8 := Slot1.grw x7 hg8 (fun e => by rcases hat7 with h | h <;> rw [h] at e <;> simp only [Value.ownBlock, World.size_drew, World.size_alloc, Option.some.injEq] at e <;> omega); obtain ⟨k8, f8⟩ := id x8) | skip)) | fail)
          all_goals
            go_wp2_with fail
            go_meet
            first
              | exact ⟨w8.heap.size, a8, c8, rfl, (slot1New w8 _ _).1, RdZ.below (Zv_rd hown8) (bel1 _ _), behind hb8 (bel1 _ _)⟩
              | exact ⟨_, a8, c8, rfl, World.cell?_setCell_same' _ _ _ (by rw [k8]; rfl), own_farS hown8 rfl k8, hb8.setCell (by dsimp only; omega) _⟩
        case rest =>
          obtain ⟨Bo, ao, co, rfl, hko, hro, hbo⟩ := hcut
          have kN := kL.below hbo
          have rowN := ownOn rowL hbo
          have uN := ownOn uL hbo
          have EN := EL.below hbo
          have RN := RL.below hbo
          have lN := lL.below hbo
          have hbN := behind hbL' hbo
          clear kL rowL uL EL RL lL hbL' hbo p0 zL sP hcuc
          obtain ⟨⟨y0, y1⟩, -⟩ := id kN
          go_wp2_with fail
          refine (cB _ _ _ RN hro lN).mono ?_
          rintro e wB ⟨rfl, hbB⟩
          clear y0 y1 hko hro RN lN cB
          have rowB := ownOn rowN hbB
          have uB := ownOn uN hbB
          have EB := EN.below hbB
          have kB := kN.below hbB
          have hbB' := behind hbN hbB
          have hcB := rowB.cellAt k (by have := rowB.1; omega)
          rw [hu1] at hcB
          have hcj := uB.cellAt j (by have := uB.1; omega)
          have hfj := uB.frozenAt j
          have hjl : (Zv p)[j]? = some (.int .i64 p[j]) := by simp [Zv, hj]
          rw [hjl] at hcj
          have hst := uB.stored j (.int .i64 x)
          rw [Zv_set] at hst
          have hgq := hst.2
          have kz := Slot2.grown kB hgq (by simp only [ne_eq, Option.some.injEq]; omega)
          have rowz := World.ownsRow.kept rowB hgq (.inr (by simp only [Value.ownBlock, ne_eq, Option.some.injEq]; exact fun e => hgug e.symm))
          have hsl : (p.set j x).length = p.length := by simp
          have Ez : OwnE (wB.setCell ⟨gu, j, none⟩ (.int .i64 x)) w2.heap.size (some g) vs (R.set k (p.set j x)) Q.length := OwnE.turn EB (by omega) hlt hu1 hgq (by rw [hsl]; exact hst.1)
          have hbz : Below w2.heap.size w2 (wB.setCell ⟨gu, j, none⟩ (.int .i64 x)) := hbB'.setCell hgu2 _
          obtain ⟨⟨y0, y1⟩, -⟩ := id kB
          have hji : (j : Int) < (p.length : Int) := by omega
          have hki : (k : Int) < (Q.length : Int) := by omega
          generalize p[j] = pj at hcj
          clear hst hgq hjl EB rowB uB kB hbB' hbB
          go_wp2
          go_roundw
          case rel => exact ⟨k + 1, by omega, by go_num, by rw [HST.out]; go_num, kz, rowz, by rw [HST.out]; exact Ez, hbz⟩
          case measure => simp [intOf]; omega
      | none =>
        have hM : Rg.mvOne R l p = (Rg.heavyK R l p (Rg.best R p l)).map fun k => (k, Rg.best R p l) := by unfold Rg.mvOne; rw [hg]
        rw [hg] at cL
        dsimp only [Rg.idxI] at cL
        have cB := fun (w' : World) (h1 : RdP w' (some ⟨g, 0, none⟩) R) (h2 : RdZ w' (some ⟨gu, 0, none⟩) p) (h3 : RdS w' c l) => specBest reps (some ⟨g, 0, none⟩) (some ⟨gu, 0, none⟩) c c3 cu cc R p l w' (by omega) htk (by omega) hl h1 h2 h3
        generalize Rg.best R p l = x at cB hM
        have cH := fun (w' : World) (h1 : RdP w' (some ⟨g, 0, none⟩) R) (h2 : RdZ w' (some ⟨gu, 0, none⟩) p) (h3 : RdS w' c l) => specHeavy reps (some ⟨g, 0, none⟩) (some ⟨gu, 0, none⟩) c c3 cu cc R p l x w' (by omega) htk (by omega) hl h1 h2 h3
        rw [hRl] at cB cH
        clear hg
        cases hh : Rg.heavyK R l p x with
        | none =>
          rw [hh] at cH hM
          dsimp only [Rg.idxI, Option.map] at cH hM
          have HX := HST2.out _ hM
          have HST : Hid (Rg.rebK l Q (k + 1) = (R.set k (Rg.mvTo p none), n + Rg.mvN none)) := HX
          clear HX hM HST2 HMV hh
          go_wp2_with fail
          refine (cL _ (Zv_rd uP) lP).mono ?_
          rintro e wL ⟨rfl, hbL⟩
          have sP := sP.below hbL
          have kL := kP.below hbL
          have rowL := ownOn rowP hbL
          have uL := ownOn uP hbL
          have EL := EP.below hbL
          have RL := RP.below hbL
          have lL := lP.below hbL
          have hbL' := behind hbP hbL
          clear kP rowP uP EP RP lP hbP p0 hbL cL
          obtain ⟨p0, -⟩ := id sP
          obtain ⟨⟨y0, y1⟩, -⟩ := id kL
          go_wp2_with fail
          refine (cB _ RL (Zv_rd uL) lL).mono ?_
          rintro e wM ⟨rfl, hbM⟩
          have sP := sP.below hbM
          have kM := kL.below hbM
          have rowM := ownOn rowL hbM
          have uM := ownOn uL hbM
          have EM := EL.below hbM
          have RM := RL.below hbM
          have lM := lL.below hbM
          have hbM' := behind hbL' hbM
          clear kL rowL uL EL RL lL hbL' p0 y0 y1 hbM cB
          obtain ⟨p0, -⟩ := id sP
          obtain ⟨⟨y0, y1⟩, -⟩ := id kM
          go_wp2_with fail
          refine (cH _ RM (Zv_rd uM) lM).mono ?_
          rintro e wB ⟨rfl, hbB⟩
          have kB := kM.below hbB
          have rowB := ownOn rowM hbB
          have uB := ownOn uM hbB
          have EB := EM.below hbB
          have hbB' := behind hbM' hbB
          have hgR : wB.grownBy wB (Value.slice (some ⟨gu, 0, none⟩) p.length cu).ownBlock := ⟨rfl, rfl, rfl, Nat.le_refl _, fun _ _ _ => rfl⟩
          have FIN : OwnE wB w2.heap.size (some g) vs (R.set k p) Q.length := OwnE.turn EB (by omega) hlt hu1 hgR uB
          clear kM rowM uM EM RM lM hbM' p0 y0 y1 hbB cH EB uB hgR
          go_wp2
          go_roundw
          case rel => exact ⟨k + 1, by omega, by go_num, by rw [HST.out]; rfl, kB, rowB, by rw [HST.out]; exact FIN, hbB'⟩
          case measure => simp [intOf]; omega
        | some j =>
          rw [hh] at cH hM
          dsimp only [Rg.idxI, Option.map] at cH hM
          have HX := HST2.out _ hM
          obtain ⟨hj, hx, hx0⟩ := HMV.out _ _ hM
          have HST : Hid (Rg.rebK l Q (k + 1) = (R.set k (Rg.mvTo p (some (j, x))), n + Rg.mvN (some (j, x)))) := HX
          clear HX hM HST2 HMV hh
          have hj0 : (0 : Int) ≤ (j : Int) := by omega
          go_wp2_with fail
          refine (cL _ (Zv_rd uP) lP).mono ?_
          rintro e wL ⟨rfl, hbL⟩
          have sP := sP.below hbL
          have kL := kP.below hbL
          have rowL := ownOn rowP hbL
          have uL := ownOn uP hbL
          have EL := EP.below hbL
          have RL := RP.below hbL
          have lL := lP.below hbL
          have hbL' := behind hbP hbL
          clear kP rowP uP EP RP lP hbP p0 hbL cL
          obtain ⟨p0, -⟩ := id sP
          obtain ⟨⟨y0, y1⟩, -⟩ := id kL
          go_wp2_with fail
          refine (cB _ RL (Zv_rd uL) lL).mono ?_
          rintro e wM ⟨rfl, hbM⟩
          have sP := sP.below hbM
          have kN := kL.below hbM
          have rowN := ownOn rowL hbM
          have uN := ownOn uL hbM
          have EN := EL.below hbM
          have RN := RL.below hbM
          have lN := lL.below hbM
          have hbN := behind hbL' hbM
          clear kL rowL uL EL RL lL hbL' p0 y0 y1 hbM cB
          obtain ⟨p0, -⟩ := id sP
          obtain ⟨⟨y0, y1⟩, -⟩ := id kN
          go_wp2_with fail
          refine (cH _ RN (Zv_rd uN) lN).mono ?_
          rintro e wB ⟨rfl, hbB⟩
          clear y0 y1 p0 RN lN cH
          have rowB := ownOn rowN hbB
          have uB := ownOn uN hbB
          have EB := EN.below hbB
          have kB := kN.below hbB
          have hbB' := behind hbN hbB
          have hcB := rowB.cellAt k (by have := rowB.1; omega)
          rw [hu1] at hcB
          have hcj := uB.cellAt j (by have := uB.1; omega)
          have hfj := uB.frozenAt j
          have hjl : (Zv p)[j]? = some (.int .i64 p[j]) := by simp [Zv, hj]
          rw [hjl] at hcj
          have hst := uB.stored j (.int .i64 x)
          rw [Zv_set] at hst
          have hgq := hst.2
          have kz := Slot2.grown kB hgq (by simp only [ne_eq, Option.some.injEq]; omega)
          have rowz := World.ownsRow.kept rowB hgq (.inr (by simp only [Value.ownBlock, ne_eq, Option.some.injEq]; exact fun e => hgug e.symm))
          have hsl : (p.set j x).length = p.length := by simp
          have Ez : OwnE (wB.setCell ⟨gu, j, none⟩ (.int .i64 x)) w2.heap.size (some g) vs (R.set k (p.set j x)) Q.length := OwnE.turn EB (by omega) hlt hu1 hgq (by rw [hsl]; exact hst.1)
          have hbz : Below w2.heap.size w2 (wB.setCell ⟨gu, j, none⟩ (.int .i64 x)) := hbB'.setCell hgu2 _
          obtain ⟨⟨y0, y1⟩, -⟩ := id kB
          have hji : (j : Int) < (p.length : Int) := by omega
          have hki : (k : Int) < (Q.length : Int) := by omega
          generalize p[j] = pj at hcj
          clear hst hgq hjl EB rowB uB kB hbB' hbB
          go_wp2
          go_roundw
          case rel => exact ⟨k + 1, by omega, by go_num, by rw [HST.out]; go_num, kz, rowz, by rw [HST.out]; exact Ez, hbz⟩
          case measure => simp [intOf]; omega
    · have hke : k = Q.length := by omega
      subst hke
      have r5 := r0.below hb
      obtain ⟨⟨t0, t1⟩, t2, t3⟩ := id r5
      have hO : OwnP wr w2.heap.size (.slice (some ⟨g, 0, none⟩) Q.length c3) (Rg.rebK l Q Q.length).1 := ⟨vs, by rw [Rg.rebK_len]; exact hrowk, by rw [Rg.rebK_len]; exact hEk⟩
      rw [HG.out] at hO ⊢
      clear hrowk hEk
      go_wp2
      have e0 : ((wr.setCell ⟨w.heap.size + 1, 0, none⟩ (.int .i64 reps)).setCell ⟨w.heap.size + 1, 1, none⟩ (.slice (some ⟨g, 0, none⟩) Q.length c3)).cell? ⟨w.heap.size + 1, 0, none⟩ = some (.int .i64 reps) := by
        rw [World.cell?_setCell_other _ _ _ _ (by simp)]
        exact World.cell?_setCell_same' _ _ _ (by rw [t0]; rfl)
      have e1 : ((wr.setCell ⟨w.heap.size + 1, 0, none⟩ (.int .i64 reps)).setCell ⟨w.heap.size + 1, 1, none⟩ (.slice (some ⟨g, 0, none⟩) Q.length c3)).cell? ⟨w.heap.size + 1, 1, none⟩ = some (.slice (some ⟨g, 0, none⟩) Q.length c3) :=
        World.cell?_setCell_same' _ _ _ (by rw [World.cell?_setCell_other _ _ _ _ (by simp), t1]; rfl)
      refine bodyPost_ret (v := .tuple #[.agg #[.int .i64 reps, .slice (some ⟨g, 0, none⟩) Q.length c3], .int .i64 (G.2 : Int)]) (by simp [results, Try.results26, go_sem, e0, e1]) rfl ⟨some ⟨g, 0, none⟩, c3, rfl, ?_, ?_⟩
      · exact ((hO.far (by omega)).far (by omega)).mono (by omega)
      · exact ((behind hB0 hb).setCell (by show w.heap.size ≤ w.heap.size + 1; omega) _).setCell (by show w.heap.size ≤ w.heap.size + 1; omega) _
end Go.Proofs.Ytoemblcheahbeac.Wk
