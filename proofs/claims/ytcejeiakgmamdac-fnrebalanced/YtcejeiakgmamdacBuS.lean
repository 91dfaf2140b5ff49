/- What Build of the specification comes to. -/
import Derived.Test.YtcejeiakgmamdacBsS
import Derived.Test.YtcejeiakgmamdacBuM
import Derived.Test.YtcejeiakgmamdacIn1
import Derived.Deep.AppendLies
import Derived.Deep.RegionLaw
namespace Go.Proofs.Ytcejeiakgmamdac.Wk
set_option linter.unusedVariables false
open Go.ChangeShapes Go.WideShapes Go.ChangeAt Go.RowKit

theorem oneP_one : ∀ u ∈ [Value.slice none 0 0], u.oneCell' = true := by
  intro u hu
  simp at hu
  subst hu
  rfl
theorem set_last (ps : List (List Int)) (p q : List Int) : (ps ++ [p]).set ps.length q = ps ++ [q] := by simp
theorem get_last (ps : List (List Int)) (p : List Int) (h : ps.length < (ps ++ [p]).length) : (ps ++ [p])[ps.length] = p := by simp
theorem tot_const (ps : List (List Int)) (n : Nat) (h : ∀ p ∈ ps, p.length = n) : tot ps = ps.length * n := by
  induction ps with
  | nil => simp [tot]
  | cons p r ih =>
    have h1 := ih (fun q hq => h q (List.mem_cons_of_mem _ hq))
    have h2 := h p List.mem_cons_self
    simp only [tot, List.map_cons, List.sum_cons, List.length_cons] at h1 ⊢
    rw [h1, h2, Nat.succ_mul]
    omega
theorem tot_parts (l : List Sm.St) (reps k j : Nat) (hk : k ≤ 64) (hr : reps ≤ 5) (hj : j ≤ 5) : tot (Rg.parts l reps k ++ [Rg.grow l (Rg.parts l reps k) j]) ≤ 1048576 := by
  rw [tot_append, tot_const _ reps (Rg.parts_each l reps k), Rg.parts_len]
  have h1 : tot [Rg.grow l (Rg.parts l reps k) j] = j := by simp [tot, Rg.grow_len]
  rw [h1]
  have : k * reps ≤ 64 * 5 := Nat.mul_le_mul hk hr
  omega

set_option maxHeartbeats 2000000 in
set_option maxRecDepth 100000 in
theorem specBuildYes (c : Option Addr) (cc : Nat) (l : List Sm.St) (parts reps : Nat) (w : World) (hrl : RdS w c l) (hd : Dv.devs l = true) (hp1 : 1 ≤ parts) (hp2 : parts ≤ 64) (hr1 : 1 ≤ reps) (hr2 : reps ≤ 5) (hr3 : reps ≤ l.length) :
    Calls Try.prog 12 #[.slice c l.length cc, .int .i64 (parts : Int), .int .i64 (reps : Int)] w fun e w' => ∃ (a : Option Addr) (ca : Nat), e = .returned (.tuple #[.agg #[.int .i64 (reps : Int), .slice a parts ca], .bool true]) ∧
      OwnP w' w.heap.size (.slice a parts ca) (Rg.parts l reps parts) ∧ Below w.heap.size w w' := by
  obtain ⟨⟨hl1, hl12⟩, -⟩ := Dv.devs_dev hd
  have cD := fun w h => specDevs c cc l w (by omega) h
  rw [hd] at cD
  obtain ⟨i0, hi0, hz0, hz1, hz2⟩ := info_parts infoPt
  obtain ⟨j0, hj0, hy0, hy1, hy2⟩ := info_parts infoZ
  have c1 := inC (parts : Int) 1 64 true (by simp; omega)
  have c2 := inC (reps : Int) 1 5 true (by simp; omega)
  have hrc : ¬ (l.length : Int) < (reps : Int) := by omega
  have hrd : decide (l.length < reps) = false := decide_eq_false (by omega)
  have hrn : ¬ l.length < reps := by omega
  clear hd
  have s0 := slot2New w (.int .i64 0) (.slice none 0 0) 29
  have hB0 := bel1 w (.cells #[.int .i64 0, .slice none 0 0] 29)
  go_enter Try.func12, Try.ntmps12
  go_wp2_with fail
  refine (cD _ (hrl.below hB0)).mono ?_
  rintro e w1 ⟨rfl, hb1⟩
  have s1 := s0.below hb1
  have hB1 := behind hB0 hb1
  have hl0 := hrl.below hB1
  clear cD s0 hB0 hb1
  go_wp2_with fail
  refine (c1 _).mono ?_
  rintro e wa ⟨rfl, hwa⟩
  subst wa
  go_wp2_with fail
  refine (c2 _).mono ?_
  rintro e wa ⟨rfl, hwa⟩
  subst wa
  go_wp2
  clear hrd hrn hrc
  have r0 := slot2New w1 (.int .i64 (reps : Int)) (.slice none 0 0) 29
  have hRb := bel1 w1 (.cells #[.int .i64 (reps : Int), .slice none 0 0] 29)
  go_loopw [9] (fun i wr => ∃ (k : Nat) (v : Value), k ≤ parts ∧ i = .int .i64 k ∧ Slot2 wr w1.heap.size (.int .i64 (reps : Int)) v ∧ OwnP wr (w1.heap.size + 1) v (Rg.parts l reps k) ∧ Below w1.heap.size w1 wr) (fun i _ => parts - (intOf i).toNat)
  case atStart => exact ⟨0, .slice none 0 0, Nat.zero_le _, rfl, r0, ⟨[], World.ownsRow_nil _ _ _ _, fun i hi => by simp [Rg.parts] at hi, fun i j ui uj hi => by simp [Rg.parts] at hi⟩, hRb⟩
  case round =>
    obtain ⟨k, v, hk, rfl, sk, hO, hb⟩ := hrel
    clear r0 hRb c1 c2
    obtain ⟨⟨g0, g1⟩, f0, f1⟩ := id sk
    have hwr : w1.heap.size + 1 ≤ wr.heap.size := sk.lt
    by_cases hlt : k < parts
    · obtain ⟨vs, hrow, hE⟩ := hO
      have hpk := Rg.parts_len l reps k
      rw [hpk] at hrow
      have hx : k + 1 ≤ 64 := by omega
      obtain ⟨av, cv, rfl⟩ := Zv_shape hrow
      have hne : some w1.heap.size ≠ (Value.slice av k cv).ownBlock := fun e => by
        have := (World.ownsRow.lt hrow _ e.symm).1
        omega
      have skA := sk.below (bel1 wr (.cells #[.slice none 0 0] 36))
      go_wp2_with (at_builtin; refine wpList_append_lies _ rfl (.tmp 40) (.tmp 42) 27 rfl (w1.heap.size + 1) 36 i0 _ 1 24 Try.underlying27 hi0 hz0 hz1 hz2 rfl (by decide) _ _ _ rfl (World.ownsRow.alloc hrow _) ⟨_, 0, none⟩ 1 1 [.slice none 0 0] rfl rfl oneZ_at oneP_one (by omega) (by unfold maxLen; omega) (by omega) (by simp; omega) _ rfl ?_; intro g2 cap2 w2 hown2 hgrow2 hat2 hlt2; obtain ⟨⟨q0, q1⟩, h0, h1⟩ := Slot2.grown skA hgrow2 hne)
      have hat2' : (Value.slice (some ⟨g2, 0, none⟩) (k + 1) cap2).ownBlock = (Value.slice av k cv).ownBlock ∨ (Value.slice (some ⟨g2, 0, none⟩) (k + 1) cap2).ownBlock = some (wr.alloc (.cells #[.slice none 0 0] 36)).heap.size := by
        rcases hat2 with h9 | h9
        · exact .inl h9.symm
        · exact .inr (congrArg some h9)
      have hgrow2' : (wr.alloc (.cells #[.slice none 0 0] 36)).grownBy w2 (Value.slice av k cv).ownBlock := hgrow2
      have sk2 := (Slot2.grown skA hgrow2' hne).put1 (.slice (some ⟨g2, 0, none⟩) (k + 1) cap2)
      have hE2 := OwnE.snoc (ps := Rg.parts l reps k) (vs := vs) (v := .slice av k cv) (v' := .slice (some ⟨g2, 0, none⟩) (k + 1) cap2) (by rw [hpk]; exact hrow.1) (hE.below (bel1 wr (.cells #[.slice none 0 0] 36))) hgrow2' hat2'
      have hO2 : OwnP w2 (w1.heap.size + 1) (.slice (some ⟨g2, 0, none⟩) (k + 1) cap2) (Rg.parts l reps k ++ [[]]) := ⟨_, by rw [List.length_append, hpk]; exact hown2, hE2⟩
      have hO3 := OwnP.far (o := 1) (u := .slice (some ⟨g2, 0, none⟩) (k + 1) cap2) hO2 (show w1.heap.size < w1.heap.size + 1 by omega)
      have hBk : Below w1.heap.size w1 (wr.alloc (.cells #[.slice none 0 0] 36)) := behind hb (bel1 _ _)
      have hB3 : Below w1.heap.size w1 (w2.setCell ⟨w1.heap.size, 1, none⟩ (.slice (some ⟨g2, 0, none⟩) (k + 1) cap2)) :=
        (hBk.grown hgrow2' hBk.size (fun i e => by have := (World.ownsRow.lt hrow i e).1; omega)).setCell (Nat.le_refl _) _
      have hg2b : w1.heap.size + 1 ≤ g2 := (World.ownsRow.lt hown2 g2 rfl).1
      generalize w2.setCell ⟨w1.heap.size, 1, none⟩ (.slice (some ⟨g2, 0, none⟩) (k + 1) cap2) = w3 at sk2 hO3 hB3 ⊢
      clear hown2 hgrow2 hat2 hlt2 q0 q1 h0 h1 hat2' hgrow2' hE2 hO2 hBk hE hrow skA sk g0 g1 f0 f1 hb hne
      obtain ⟨P, hP⟩ : ∃ P, Rg.parts l reps k = P := ⟨_, rfl⟩
      have HP : Hid (Rg.parts l reps k = P) := hP
      rw [hP] at hO3 hpk
      clear hP
      go_loopw [10] (fun i wq => ∃ (j : Nat), j ≤ reps ∧ i = .int .i64 j ∧ Slot2 wq w1.heap.size (.int .i64 (reps : Int)) (.slice (some ⟨g2, 0, none⟩) (k + 1) cap2) ∧ OwnP wq (w1.heap.size + 1) (.slice (some ⟨g2, 0, none⟩) (k + 1) cap2) (P ++ [Rg.grow l P j]) ∧ Below w1.heap.size w1 wq) (fun i _ => reps - (intOf i).toNat)
      case atStart => exact ⟨0, Nat.zero_le _, rfl, sk2, hO3, hB3⟩
      case round =>
        obtain ⟨j, hj, rfl, sj, hOj, hbj⟩ := hrel
        clear sk2 hO3 hB3
        obtain ⟨⟨d0, d1⟩, e0, e1⟩ := id sj
        by_cases hjr : j < reps
        · have hR := OwnP.rdS hOj
          obtain ⟨vs', hrow', hE'⟩ := hOj
          have hPl : (P ++ [Rg.grow l P j]).length = k + 1 := by simp [hpk]
          have hgl := Rg.grow_len l P j
          have htt : tot (P ++ [Rg.grow l P j]) ≤ 1048576 := by rw [← HP.out]; exact tot_parts l reps k j (by omega) hr2 (by omega)
          obtain ⟨u, hu1, hu2, hu3⟩ := hE'.1 k (by omega) (by omega)
          have hgk : (P ++ [Rg.grow l P j])[k]'(by omega) = Rg.grow l P j := by
            simp [← hpk]
          rw [hgk] at hu2
          obtain ⟨au, cu, rfl⟩ := Zv_shape hu2
          have hzu := Zv_rd hu2
          have cB := fun (w' : World) (h1 : RdP w' (some ⟨g2, 0, none⟩) (P ++ [Rg.grow l P j])) (h2 : RdZ w' au (Rg.grow l P j)) (h3 : RdS w' c l) => specBest (reps : Int) (some ⟨g2, 0, none⟩) au c cap2 cu cc (P ++ [Rg.grow l P j]) (Rg.grow l P j) l w' (by omega) htt (by omega) (by omega) h1 h2 h3
          have HG : Hid (Rg.grow l P (j + 1) = Rg.grow l P j ++ [Rg.best (P ++ [Rg.grow l P j]) (Rg.grow l P j) l]) := rfl
          generalize Rg.best (P ++ [Rg.grow l P j]) (Rg.grow l P j) l = x at cB HG
          rw [hPl, hgl] at cB
          rw [hPl] at hrow'
          have hck := hrow'.cellAt k (by omega)
          rw [hu1, hgl] at hck
          have hk0 : (0 : Int) ≤ (k : Int) := by omega
          have hk1 : (k : Int) < ((k + 1 : Nat) : Int) := by omega
          have hk2 : (k : Int) < (k : Int) + 1 := by omega
          have cB' := cB wr.drew hR hzu (hl0.below hbj.drew)
          go_wp2_with fail
          go_region_held3 (fun wy => wy.cell? ⟨w1.heap.size, 0, none⟩ = some (.int .i64 (reps : Int)) ∧ wy.cell? ⟨w1.heap.size, 1, none⟩ = some (.slice (some ⟨g2, 0, none⟩) (k + 1) cap2) ∧ wy.cell? ⟨g2, k, none⟩ = some (.slice au j cu))
            (first | exact ⟨d0, d1, hck⟩ | exact keepR3 ‹_› ‹_› | go_keep)
            (first | (go_at_call 21; refine cB'.mono ?_; rintro e w5 ⟨rfl, hb5⟩) | fail)
          have s5 := Slot2.below (w := wr.drew) sj hb5
          have row5 := ownOn (w := wr.drew) hrow' hb5
          have E5 := OwnE.below (w := wr.drew) hE' hb5
          have u5 := ownOn (w := wr.drew) hu2 hb5
          have hB5 := behind hbj.drew hb5
          have ck5 := cellOn (w := wr.drew) hck hb5
          have fk5 := row5.frozenAt k
          obtain ⟨⟨m0, m1⟩, n0, n1⟩ := id s5
          clear hR hzu cB cB' hrow' hE' hu2 hck hb5 hbj sj d0 d1 e0 e1
          rw [hgl] at u5
          have hneu1 : some w1.heap.size ≠ (Value.slice au j cu).ownBlock := fun e => by
            have := (World.ownsRow.lt u5 _ e.symm).1
            omega
          have hneu2 : some g2 ≠ (Value.slice au j cu).ownBlock := fun e => by
            rw [hgl] at hu3
            rcases hu3 with h9 | h9
            · rw [h9] at e; cases e
            · exact h9 (by rw [← e]; rfl)
          have sA := s5.below (bel1 w5 (.cells #[.int .i64 x] 3))
          have kA := cellOn ck5 (bel1 w5 (.cells #[.int .i64 x] 3))
          have rA := ownOn row5 (bel1 w5 (.cells #[.int .i64 x] 3))
          have fA := rA.frozenAt k
          have uA := ownOn u5 (bel1 w5 (.cells #[.int .i64 x] 3))
          have hs5 := s5.lt
          have FIN : Hid (∀ g6 cap6 w6, w6.ownsRow (w1.heap.size + 1) 3 1 (.slice (some ⟨g6, 0, none⟩) (j + 1) cap6) (j + 1) (Zv (Rg.grow l P j) ++ [.int .i64 x]) → (w5.alloc (.cells #[.int .i64 x] 3)).drew.grownBy w6 (Value.slice au j cu).ownBlock →
              ((Value.slice au j cu).ownBlock = some g6 ∨ g6 = (w5.alloc (.cells #[.int .i64 x] 3)).drew.heap.size) →
              Slot2 (w6.setCell ⟨g2, k, none⟩ (.slice (some ⟨g6, 0, none⟩) (j + 1) cap6)) w1.heap.size (.int .i64 (reps : Int)) (.slice (some ⟨g2, 0, none⟩) (k + 1) cap2) ∧
              OwnP (w6.setCell ⟨g2, k, none⟩ (.slice (some ⟨g6, 0, none⟩) (j + 1) cap6)) (w1.heap.size + 1) (.slice (some ⟨g2, 0, none⟩) (k + 1) cap2) (P ++ [Rg.grow l P (j + 1)]) ∧
              Below w1.heap.size w1 (w6.setCell ⟨g2, k, none⟩ (.slice (some ⟨g6, 0, none⟩) (j + 1) cap6))) := by
            intro g6 cap6 w6 hown6 hg6 hat6
            have hgl' := Rg.grow_len l P (j + 1)
            have hgA : g2 < (w5.alloc (.cells #[.int .i64 x] 3)).drew.heap.size := (World.ownsRow.lt rA g2 rfl).2
            have hmore := OwnE.more (w := (w5.alloc (.cells #[.int .i64 x] 3)).drew) (w' := w6) (g := g2) (k := k) (u := .slice au j cu) (u' := .slice (some ⟨g6, 0, none⟩) (j + 1) cap6) (vs := vs') (ps := P ++ [Rg.grow l P j]) (p' := Rg.grow l P (j + 1)) (by rw [hPl]; exact row5.1)
              (E5.below (bel1 w5 (.cells #[.int .i64 x] 3)).drew) (by omega) (by rw [hu1, hgl]) hg6 (by rw [hgl', HG.out, Zv_snoc]; exact hown6) (by rcases hat6 with h9 | h9; exact .inl h9.symm; exact .inr (congrArg some h9)) hgA
            have hset : (P ++ [Rg.grow l P j]).set k (Rg.grow l P (j + 1)) = P ++ [Rg.grow l P (j + 1)] := by rw [← hpk]; exact set_last _ _ _
            rw [hset] at hmore
            have hrow6 := World.ownsRow.kept (w := (w5.alloc (.cells #[.int .i64 x] 3)).drew) rA hg6 (.inr hneu2)
            have hB6 : Below w1.heap.size w1 w6 := (behind hB5 (bel1 w5 (.cells #[.int .i64 x] 3))).drew.grown hg6 (by show w1.heap.size ≤ (w5.alloc _).heap.size; simp; omega) (fun i e => by have := (World.ownsRow.lt u5 i e).1; omega)
            refine ⟨(Slot2.grown (w := (w5.alloc (.cells #[.int .i64 x] 3)).drew) sA hg6 hneu1).far (by omega), ⟨vs'.set k (.slice (some ⟨g6, 0, none⟩) (j + 1) cap6), ?_, hmore⟩, hB6.setCell (by show w1.heap.size ≤ g2; omega) _⟩
            have e9 : (P ++ [Rg.grow l P (j + 1)]).length = k + 1 := by simp [hpk]
            rw [e9]
            exact (hrow6.stored k _).1
          clear E5 row5 hB5 s5
          go_wp2_with fail
          go_region_law (first | (refine step_append_lies _ (by rfl) (.tmp 66) (.tmp 68) 32 (by rfl) (w1.heap.size + 1) 3 j0 _ 1 8 Try.underlying32 hj0 hy0 hy1 hy2 rfl (by decide) _ _ _ (by rfl) (by exact uA) ⟨_, 0, none⟩ 1 1 [.int .i64 x] (by rfl) rfl oneZ_at oneZ_one (by omega) (by unfold maxLen; omega) (by omega) (by simp; omega) _ rfl ?_; intro g6 cap6 w6 hown6 hgrow6 hat6 hlt6; have hg6 : (w5.alloc (.cells #[.int .i64 x] 3)).drew.grownBy w6 (Value.slice au j cu).ownBlock := hgrow6; clear hgrow6; obtain ⟨⟨a0, a1⟩, b0, b1⟩ := Slot2.grown (w := (w5.alloc (.cells #[.int .i64 x] 3)).drew) sA hg6 hneu1; obtain ⟨a2, b2⟩ := cellGrown (w := (w5.alloc (.cells #[.int .i64 x] 3)).drew) kA fA hg6 hneu2) | fail)
          all_goals
            obtain ⟨x1, x2, x3⟩ := FIN.out g6 cap6 w6 hown6 hg6 hat6
            clear FIN hown6 hg6 hat6 a0 a1 a2 b0 b1 b2 m0 m1 n0 n1 ck5 fk5 sA kA rA fA uA
            go_wp2
            go_roundw
            case rel => exact ⟨j + 1, by omega, by go_num, x1, x2, x3⟩
            case measure => simp [intOf]; omega
        · have hje : j = reps := by omega
          have hO9 : OwnP wr (w1.heap.size + 1) (.slice (some ⟨g2, 0, none⟩) (k + 1) cap2) (Rg.parts l reps (k + 1)) := by
            show OwnP wr _ _ (Rg.parts l reps k ++ [Rg.grow l (Rg.parts l reps k) reps])
            rw [HP.out, ← hje]
            exact hOj
          clear hje
          go_wp2
          go_roundw
          case rel =>
            first
            | exact ⟨k + 1, _, by omega, by go_num, sj, hO9, hbj⟩
            | (repeat apply Exists.intro
               refine ⟨⟨k + 1, _, by omega, by go_num, sj, hO9, hbj⟩, rfl⟩)
          case measure => simp [intOf]; omega
    · have hke : k = parts := by omega
      subst hke
      obtain ⟨av, cv, rfl⟩ : ∃ av cv, v = .slice av k cv := by
        obtain ⟨vs, hrow, -⟩ := hO
        rw [Rg.parts_len] at hrow
        exact Zv_shape hrow
      obtain ⟨⟨t0, t1⟩, t2, t3⟩ := s1.below hb
      have hwl : w.heap.size < w1.heap.size := s1.lt
      go_wp2
      have e0 : ((wr.setCell ⟨w.heap.size, 0, none⟩ (.int .i64 (reps : Int))).setCell ⟨w.heap.size, 1, none⟩ (.slice av k cv)).cell? ⟨w.heap.size, 0, none⟩ = some (.int .i64 (reps : Int)) := by
        rw [World.cell?_setCell_other _ _ _ _ (by simp)]
        exact World.cell?_setCell_same' _ _ _ (by rw [t0]; rfl)
      have e1 : ((wr.setCell ⟨w.heap.size, 0, none⟩ (.int .i64 (reps : Int))).setCell ⟨w.heap.size, 1, none⟩ (.slice av k cv)).cell? ⟨w.heap.size, 1, none⟩ = some (.slice av k cv) :=
        World.cell?_setCell_same' _ _ _ (by rw [World.cell?_setCell_other _ _ _ _ (by simp), t1]; rfl)
      refine bodyPost_ret (v := .tuple #[.agg #[.int .i64 (reps : Int), .slice av k cv], .bool true]) (by simp [results, Try.results12, go_sem, e0, e1]) rfl ⟨av, cv, rfl, ?_, ?_⟩
      · exact ((hO.far (by omega)).far (by omega)).mono (by omega)
      · exact ((behind hB1 hb).setCell (Nat.le_refl _) _).setCell (Nat.le_refl _) _

/-- what Build wants of its arguments -/
def BldOk (l : List Sm.St) (parts reps : Int) : Prop := Dv.devs l = true ∧ (1 ≤ parts ∧ parts ≤ 64) ∧ (1 ≤ reps ∧ reps ≤ 5) ∧ reps ≤ (l.length : Int)
set_option maxHeartbeats 1000000 in
set_option maxRecDepth 100000 in
theorem specBuildNo (c : Option Addr) (cc : Nat) (l : List Sm.St) (parts reps : Int) (w : World) (hl : l.length ≤ 1048576) (hrl : RdS w c l) (hno : ¬ BldOk l parts reps) :
    Calls Try.prog 12 #[.slice c l.length cc, .int .i64 parts, .int .i64 reps] w fun e w' => e = .returned (.tuple #[.agg #[.int .i64 0, .slice none 0 0], .bool false]) ∧ Below w.heap.size w w' := by
  have cD := fun w h => specDevs c cc l w (by omega) h
  have s0 := slot2New w (.int .i64 0) (.slice none 0 0) 29
  have hB0 := bel1 w (.cells #[.int .i64 0, .slice none 0 0] 29)
  have fin : ∀ (w1 : World), Below (w.alloc (.cells #[.int .i64 0, .slice none 0 0] 29)).heap.size (w.alloc (.cells #[.int .i64 0, .slice none 0 0] 29)) w1 →
      ((w1.setCell ⟨w.heap.size, 0, none⟩ (.int .i64 0)).setCell ⟨w.heap.size, 1, none⟩ (.slice none 0 0)).cell? ⟨w.heap.size, 0, none⟩ = some (.int .i64 0) ∧
      ((w1.setCell ⟨w.heap.size, 0, none⟩ (.int .i64 0)).setCell ⟨w.heap.size, 1, none⟩ (.slice none 0 0)).cell? ⟨w.heap.size, 1, none⟩ = some (.slice none 0 0) ∧
      Below w.heap.size w ((w1.setCell ⟨w.heap.size, 0, none⟩ (.int .i64 0)).setCell ⟨w.heap.size, 1, none⟩ (.slice none 0 0)) := fun w1 hb1 => by
    obtain ⟨⟨t0, t1⟩, -⟩ := s0.below hb1
    refine ⟨?_, ?_, ((behind hB0 hb1).setCell (Nat.le_refl _) _).setCell (Nat.le_refl _) _⟩
    · rw [World.cell?_setCell_other _ _ _ _ (by simp)]
      exact World.cell?_setCell_same' _ _ _ (by rw [t0]; rfl)
    · exact World.cell?_setCell_same' _ _ _ (by rw [World.cell?_setCell_other _ _ _ _ (by simp), t1]; rfl)
  have FIN : Hid (∀ (w1 : World), Below (w.alloc (.cells #[.int .i64 0, .slice none 0 0] 29)).heap.size (w.alloc (.cells #[.int .i64 0, .slice none 0 0] 29)) w1 → _) := fin
  clear fin
  cases hd : Dv.devs l with
  | false =>
    rw [hd] at cD
    clear hno hd
    go_enter Try.func12, Try.ntmps12
    go_wp2_with fail
    refine (cD _ (hrl.below hB0)).mono ?_
    rintro e w1 ⟨rfl, hb1⟩
    obtain ⟨⟨t0, t1⟩, t2, t3⟩ := s0.below hb1
    obtain ⟨e0, e1, hB⟩ := FIN.out w1 hb1
    clear FIN
    go_wp2
    exact bodyPost_ret (v := .tuple #[.agg #[.int .i64 0, .slice none 0 0], .bool false]) (by simp [results, Try.results12, go_sem, e0, e1]) rfl ⟨rfl, hB⟩
  | true =>
    rw [hd] at cD
    by_cases h1 : 1 ≤ parts ∧ parts ≤ 64
    · by_cases h2 : 1 ≤ reps ∧ reps ≤ 5
      · have h3 : (l.length : Int) < reps := by
          by_cases h3 : reps ≤ (l.length : Int)
          · exact absurd ⟨hd, h1, h2, h3⟩ hno
          · omega
        have c1 := inC parts 1 64 true (by simp; omega)
        have c2 := inC reps 1 5 true (by simp; omega)
        clear hno hd h1 h2
        go_enter Try.func12, Try.ntmps12
        go_wp2_with fail
        refine (cD _ (hrl.below hB0)).mono ?_
        rintro e w1 ⟨rfl, hb1⟩
        obtain ⟨⟨t0, t1⟩, t2, t3⟩ := s0.below hb1
        obtain ⟨e0, e1, hB⟩ := FIN.out w1 hb1
        clear FIN
        go_wp2_with fail
        refine (c1 _).mono ?_
        rintro e wa ⟨rfl, hwa⟩
        subst wa
        go_wp2_with fail
        refine (c2 _).mono ?_
        rintro e wa ⟨rfl, hwa⟩
        subst wa
        go_wp2
        exact bodyPost_ret (v := .tuple #[.agg #[.int .i64 0, .slice none 0 0], .bool false]) (by simp [results, Try.results12, go_sem, e0, e1]) rfl ⟨rfl, hB⟩
      · have c1 := inC parts 1 64 true (by simp; omega)
        have c2 := inC reps 1 5 false (by simp; omega)
        clear hno hd h1 h2
        go_enter Try.func12, Try.ntmps12
        go_wp2_with fail
        refine (cD _ (hrl.below hB0)).mono ?_
        rintro e w1 ⟨rfl, hb1⟩
        obtain ⟨⟨t0, t1⟩, t2, t3⟩ := s0.below hb1
        obtain ⟨e0, e1, hB⟩ := FIN.out w1 hb1
        clear FIN
        go_wp2_with fail
        refine (c1 _).mono ?_
        rintro e wa ⟨rfl, hwa⟩
        subst wa
        go_wp2_with fail
        refine (c2 _).mono ?_
        rintro e wa ⟨rfl, hwa⟩
        subst wa
        go_wp2
        exact bodyPost_ret (v := .tuple #[.agg #[.int .i64 0, .slice none 0 0], .bool false]) (by simp [results, Try.results12, go_sem, e0, e1]) rfl ⟨rfl, hB⟩
    · have c1 := inC parts 1 64 false (by simp; omega)
      clear hno hd h1
      go_enter Try.func12, Try.ntmps12
      go_wp2_with fail
      refine (cD _ (hrl.below hB0)).mono ?_
      rintro e w1 ⟨rfl, hb1⟩
      obtain ⟨⟨t0, t1⟩, t2, t3⟩ := s0.below hb1
      obtain ⟨e0, e1, hB⟩ := FIN.out w1 hb1
      clear FIN
      go_wp2_with fail
      refine (c1 _).mono ?_
      rintro e wa ⟨rfl, hwa⟩
      subst wa
      go_wp2
      exact bodyPost_ret (v := .tuple #[.agg #[.int .i64 0, .slice none 0 0], .bool false]) (by simp [results, Try.results12, go_sem, e0, e1]) rfl ⟨rfl, hB⟩
end Go.Proofs.Ytcejeiakgmamdac.Wk
