/- What Best of the specification comes to. -/
import Derived.Test.YtcejeiakgmamdacSpS
import Derived.Test.YtcejeiakgmamdacLdS
import Derived.Test.YtcejeiakgmamdacDvS
import Derived.Test.YtcejeiakgmamdacTxM
import Derived.Deep.RegionHeld3
import Derived.Deep.Cut
namespace Go.Proofs.Ytcejeiakgmamdac.Wk
set_option linter.unusedVariables false
open Go.ChangeShapes Go.WideShapes Go.ChangeAt Go.RowKit

theorem best_no {ps : List (List Int)} {p : List Int} {l : List Sm.St} (h : Dv.devs l = false) : Rg.best ps p l = -1 := by unfold Rg.best; rw [h]; rfl
theorem best_none {ps : List (List Int)} {p : List Int} {l : List Sm.St} (h : Rg.bfold ps p (Rg.zns l p) l = none) : Rg.best ps p l = -1 := by unfold Rg.best; rw [h]; simp
theorem best_some {ps : List (List Int)} {p : List Int} {l : List Sm.St} {d : Sm.St} {f : Bool} (hd : Dv.devs l = true) (h : Rg.bfold ps p (Rg.zns l p) l = some (d, f)) : Rg.best ps p l = d.1 := by unfold Rg.best; rw [h, hd]; rfl
theorem bstep_in {ps : List (List Int)} {p Z : List Int} {s : Option (Sm.St × Bool)} {d : Sm.St} (h : d.1 ∈ p) : Rg.bstep ps p Z s d = s := by unfold Rg.bstep; rw [if_pos h]
theorem bstep_none {ps : List (List Int)} {p Z : List Int} {d : Sm.St} (h : d.1 ∉ p) : Rg.bstep ps p Z none d = some (d, !decide (d.2.1 ∈ Z)) := by unfold Rg.bstep; rw [if_neg h]
theorem bstep_new {ps : List (List Int)} {p Z : List Int} {b d : Sm.St} (h : d.1 ∉ p) (hz : d.2.1 ∉ Z) : Rg.bstep ps p Z (some (b, false)) d = some (d, true) := by unfold Rg.bstep; rw [if_neg h]; simp [hz]
theorem bstep_other {ps : List (List Int)} {p Z : List Int} {b d : Sm.St} (h : d.1 ∉ p) (hz : d.2.1 ∈ Z) : Rg.bstep ps p Z (some (b, true)) d = some (b, true) := by unfold Rg.bstep; rw [if_neg h]; simp [hz]
theorem bstep_less {ps : List (List Int)} {p Z : List Int} {b d : Sm.St} {f : Bool} (h : d.1 ∉ p) (hz : (!decide (d.2.1 ∈ Z)) = f) (hl : ((Rg.load ps d.1 : Int) + 1) * b.2.2 < ((Rg.load ps b.1 : Int) + 1) * d.2.2) : Rg.bstep ps p Z (some (b, f)) d = some (d, f) := by
  unfold Rg.bstep
  rw [if_neg h]
  dsimp only
  rw [if_neg (by rw [hz]; cases f <;> simp), if_pos ⟨hz, hl⟩]
theorem bstep_more {ps : List (List Int)} {p Z : List Int} {b d : Sm.St} {f : Bool} (h : d.1 ∉ p) (hz : (!decide (d.2.1 ∈ Z)) = f) (hl : ¬ ((Rg.load ps d.1 : Int) + 1) * b.2.2 < ((Rg.load ps b.1 : Int) + 1) * d.2.2) : Rg.bstep ps p Z (some (b, f)) d = some (b, f) := by
  unfold Rg.bstep
  rw [if_neg h]
  dsimp only
  rw [if_neg (by rw [hz]; cases f <;> simp), if_neg (fun x => hl x.2)]
/-- where the best so far stands -/
def BestAt (ps : List (List Int)) (p Z : List Int) (l : List Sm.St) (k : Nat) (bv fv : Value) : Prop :=
  (bv = .int .i64 (-1) ∧ fv = .bool false ∧ Rg.bfold ps p Z (l.take k) = none) ∨
  ∃ (j : Nat) (f : Bool) (hj : j < l.length), bv = .int .i64 j ∧ fv = .bool f ∧ Rg.bfold ps p Z (l.take k) = some (l[j], f)
theorem keepB {w w' : World} {a1 a2 a3 a4 a5 a6 : Addr} {v1 v2 v3 v4 v5 v6 : Value} (h : w.cell? a1 = some v1 ∧ w.cell? a2 = some v2 ∧ w.cell? a3 = some v3 ∧ w.cell? a4 = some v4 ∧ w.cell? a5 = some v5 ∧ w.cell? a6 = some v6) (hb : Below w.heap.size w w') :
    w'.cell? a1 = some v1 ∧ w'.cell? a2 = some v2 ∧ w'.cell? a3 = some v3 ∧ w'.cell? a4 = some v4 ∧ w'.cell? a5 = some v5 ∧ w'.cell? a6 = some v6 :=
  ⟨by rw [hb.cell (World.block_lt_of_cell? w _ h.1)]; exact h.1, by rw [hb.cell (World.block_lt_of_cell? w _ h.2.1)]; exact h.2.1, by rw [hb.cell (World.block_lt_of_cell? w _ h.2.2.1)]; exact h.2.2.1,
    by rw [hb.cell (World.block_lt_of_cell? w _ h.2.2.2.1)]; exact h.2.2.2.1, by rw [hb.cell (World.block_lt_of_cell? w _ h.2.2.2.2.1)]; exact h.2.2.2.2.1, by rw [hb.cell (World.block_lt_of_cell? w _ h.2.2.2.2.2)]; exact h.2.2.2.2.2⟩
theorem wrapB (n : Int) (h0 : -9223372036854775808 ≤ n) (h1 : n < 9223372036854775808) : IntKind.i64.wrap n = n := by
  simp only [IntKind.wrap, IntKind.bits, IntKind.signed]
  simp
  omega
/-- a share, and that it fits -/
theorem share (A : Nat) (n : Int) (hA : A ≤ 1048576) (h0 : 1 ≤ n) (h1 : n ≤ 1000) : IntKind.i64.wrap ((A : Int) + 1) = (A : Int) + 1 ∧ IntKind.i64.wrap (((A : Int) + 1) * n) = ((A : Int) + 1) * n := by
  have h2 : 0 ≤ ((A : Int) + 1) * n := Int.mul_nonneg (by omega) (by omega)
  have h3 : ((A : Int) + 1) * n ≤ 1048577 * 1000 := Int.mul_le_mul (by omega) h1 (by omega) (by omega)
  exact ⟨wrapB _ (by omega) (by omega), wrapB _ (by omega) (by omega)⟩

set_option maxHeartbeats 1000000 in
set_option maxRecDepth 100000 in
theorem specBestNo (reps : Int) (a b c : Option Addr) (ca cb cc : Nat) (ps : List (List Int)) (p : List Int) (l : List Sm.St) (w : World) (hp : p.length ≤ 1048576) (hl : l.length ≤ 1048576) (hrp : RdZ w b p) (hrl : RdS w c l) (hd : Dv.devs l = false) :
    Calls Try.prog 21 #[.agg #[.int .i64 reps, .slice a ps.length ca], .agg #[.slice b p.length cb], .slice c l.length cc] w fun e w' => e = .returned (.int .i64 (Rg.best ps p l)) ∧ Below w.heap.size w w' := by
  rw [best_no hd]
  have hB0 := bel2 w (.cells #[.int .i64 reps, .slice a ps.length ca] 29) (.cells #[.slice b p.length cb] 36)
  go_enter Try.func21, Try.ntmps21
  go_wp2_with fail
  refine (specZns b c cb cc p l _ hp hl (hrp.below hB0) (hrl.below hB0)).mono ?_
  rintro e w1 ⟨aZ, cZ, rfl, hownZ, hb1⟩
  have hB1 := behind hB0 hb1
  have cD := fun w h => specDevs c cc l w (by omega) h
  rw [hd] at cD
  clear hd hownZ hb1 hB0
  go_wp2
  go_loopw [8, 9, 10] (fun bv fv i wr => bv = .int .i64 (-1) ∧ fv = .bool false ∧ i = .int .i64 0 ∧ Below w.heap.size w wr) (fun _ _ _ _ => 0)
  case atStart => exact ⟨rfl, rfl, rfl, hB1⟩
  case round =>
    obtain ⟨rfl, rfl, rfl, hb⟩ := hrel
    by_cases h0 : 0 < l.length
    · go_wp2_with fail
      refine (cD _ (hrl.below hb)).mono ?_
      rintro e w2 ⟨rfl, hb2⟩
      go_wp2
      go_ret
      exact ⟨rfl, behind hb hb2⟩
    · go_wp2
      go_ret
      exact ⟨rfl, hb⟩

set_option maxHeartbeats 4000000 in
set_option maxRecDepth 100000 in
theorem specBestYes (reps : Int) (a b c : Option Addr) (ca cb cc : Nat) (ps : List (List Int)) (p : List Int) (l : List Sm.St) (w : World) (hps : ps.length ≤ 1048576) (ht : tot ps ≤ 1048576) (hp : p.length ≤ 1048576) (hr : RdP w a ps) (hrp : RdZ w b p) (hrl : RdS w c l) (hd : Dv.devs l = true) :
    Calls Try.prog 21 #[.agg #[.int .i64 reps, .slice a ps.length ca], .agg #[.slice b p.length cb], .slice c l.length cc] w fun e w' => e = .returned (.int .i64 (Rg.best ps p l)) ∧ Below w.heap.size w w' := by
  obtain ⟨⟨hl1, hl12⟩, hdev⟩ := Dv.devs_dev hd
  have hwt : Hid (∀ k (h : k < l.length), 1 ≤ l[k].2.2 ∧ l[k].2.2 ≤ 1000) := fun k h => by
    have := hdev l[k] (List.getElem_mem h)
    unfold Dv.dev at this
    simp at this
    omega
  obtain ⟨G, hG⟩ : ∃ G, Rg.best ps p l = G := ⟨_, rfl⟩
  have HG : Hid (Rg.best ps p l = G) := hG
  rw [hG]
  clear hG hdev
  have hB0 := bel2 w (.cells #[.int .i64 reps, .slice a ps.length ca] 29) (.cells #[.slice b p.length cb] 36)
  have s0 := (slot2New w (.int .i64 reps) (.slice a ps.length ca) 29).below (bel1 _ (.cells #[.slice b p.length cb] 36))
  have s1 := slot1New (w.alloc (.cells #[.int .i64 reps, .slice a ps.length ca] 29)) (.slice b p.length cb) 36
  simp only [World.size_alloc] at s1
  have cD := fun w h => specDevs c cc l w (by omega) h
  have HD : Hid (Dv.devs l = true) := hd
  rw [hd] at cD
  clear hd
  go_enter Try.func21, Try.ntmps21
  go_wp2_with fail
  refine (specZns b c cb cc p l _ hp (by omega) (hrp.below hB0) (hrl.below hB0)).mono ?_
  rintro e w1 ⟨aZ, cZ, rfl, hownZ, hb1⟩
  have hB1 := behind hB0 hb1
  have t0 := s0.below hb1
  have t1 := s1.below hb1
  have hr1 := hr.below hB1
  have hrp1 := hrp.below hB1
  have hrl1 := hrl.below hB1
  have hZ1 := Zv_rd hownZ
  have hZl : (Rg.zns l p).length ≤ 1048576 := Nat.le_trans (Rg.zns_len l p) hp
  obtain ⟨Z, hZ⟩ : ∃ Z, Rg.zns l p = Z := ⟨_, rfl⟩
  have HZ : Hid (Rg.zns l p = Z) := hZ
  rw [hZ] at hZ1 hZl ⊢
  clear hZ hownZ s0 s1 hB0 hb1
  go_wp2
  go_loopw [8, 9, 10] (fun bv fv i wr => ∃ k : Nat, k ≤ l.length ∧ i = .int .i64 k ∧ Hid (BestAt ps p Z l k bv fv) ∧ Below w1.heap.size w1 wr) (fun _ _ i _ => l.length - (intOf i).toNat)
  case atStart => exact ⟨0, Nat.zero_le _, rfl, .inl ⟨rfl, rfl, rfl⟩, Below.refl _ _⟩
  case round =>
    obtain ⟨k, hk, rfl, HB, hb⟩ := hrel
    by_cases hlt : k < l.length
    · have HS : Hid (Rg.bfold ps p Z (l.take (k + 1)) = Rg.bstep ps p Z (Rg.bfold ps p Z (l.take k)) l[k]) := Rg.bfold_step hlt ps p Z
      have hw1 := hwt.out k hlt
      have HK : Hid (∀ u, l[k] = u → l[k] = u) := fun _ h => h
      have hcell := (hrl1.below hb) k hlt
      obtain ⟨u, hu⟩ : ∃ u, l[k] = u := ⟨_, rfl⟩
      have HU : Hid (l[k] = u) := hu
      rw [hu] at hcell hw1 HS
      clear hu HK
      obtain ⟨i, z, n⟩ := u
      dsimp only at hw1
      rcases HB.out with ⟨rfl, rfl, hf⟩ | ⟨j, f, hj, rfl, rfl, hf⟩
      · obtain ⟨bl, ol, rfl, pk⟩ := hcell
        have HF : Hid (Rg.bfold ps p Z (l.take k) = none) := hf
        clear hf HB
        go_wp2_with fail
        refine (cD _ (hrl1.below hb)).mono ?_
        rintro e w2 ⟨rfl, hb2⟩
        have hB2 := behind hb hb2
        obtain ⟨k0, k1, k2⟩ := pk.below hb2
        have cH := fun (w' : World) (h : RdZ w' b p) => specHas b cb p i w' hp h
        have cY := fun (w' : World) (h : RdZ w' aZ Z) => specHas aZ cZ Z z w' hZl h
        dsimp only at k0 k1 k2
        have hB3 := behind hB2 (bel1 w2 (.cells #[.int .i64 i, .int .i64 z, .int .i64 n] 42))
        have x3 := boxNew w2 i z n 42
        have t13 := t1.below hB3
        obtain ⟨x30, x31, x32⟩ := id x3
        obtain ⟨p10, -⟩ := id t13
        by_cases hin : i ∈ p
        · have hdt : decide (i ∈ p) = true := decide_eq_true hin
          rw [hdt] at cH
          go_wp2_with fail
          refine (cH _ (hrp1.below hB3)).mono ?_
          rintro e _ ⟨rfl, rfl⟩
          go_wp2
          go_roundw
          case rel => exact ⟨k + 1, by omega, by go_num, .inl ⟨rfl, rfl, by rw [HS.out, HF.out, bstep_in hin]⟩, hB3⟩
          case measure => simp [intOf]; omega
        · have hdt : decide (i ∈ p) = false := decide_eq_false hin
          rw [hdt] at cH
          obtain ⟨B, hBz⟩ : ∃ B, decide (z ∈ Z) = B := ⟨_, rfl⟩
          have HBz : Hid (decide (z ∈ Z) = B) := hBz
          rw [hBz] at cY
          clear hBz hdt
          go_wp2_with fail
          refine (cH _ (hrp1.below hB3)).mono ?_
          rintro e _ ⟨rfl, rfl⟩
          go_wp2_with fail
          refine (cY _ (hZ1.below hB3)).mono ?_
          rintro e _ ⟨rfl, rfl⟩
          go_wp2
          go_roundw
          case rel => exact ⟨k + 1, by omega, by go_num, .inr ⟨k, !B, hlt, rfl, rfl, by rw [HS.out, HF.out, bstep_none hin, HU.out]; dsimp only; rw [HBz.out]⟩, hB3⟩
          case measure => simp [intOf]; omega
      · have hwj := hwt.out j hj
        have hcj := (hrl1.below hb) j hj
        obtain ⟨v, hv⟩ : ∃ v, l[j] = v := ⟨_, rfl⟩
        have HV : Hid (l[j] = v) := hv
        rw [hv] at hcj hwj hf
        clear hv
        obtain ⟨i', z', n'⟩ := v
        dsimp only at hwj
        have HF : Hid (Rg.bfold ps p Z (l.take k) = some ((i', z', n'), f)) := hf
        clear hf HB
        obtain ⟨bl, ol, rfl, pk⟩ := hcell
        obtain ⟨bl', ol', e', pj⟩ := hcj
        simp only [Option.some.injEq, Addr.mk.injEq, and_true] at e'
        obtain ⟨rfl, rfl⟩ := e'
        go_wp2_with fail
        refine (cD _ (hrl1.below hb)).mono ?_
        rintro e w2 ⟨rfl, hb2⟩
        have hB2 := behind hb hb2
        obtain ⟨k0, k1, k2⟩ := pk.below hb2
        have cH := fun (w' : World) (h : RdZ w' b p) => specHas b cb p i w' hp h
        have cY := fun (w' : World) (h : RdZ w' aZ Z) => specHas aZ cZ Z z w' hZl h
        dsimp only at k0 k1 k2
        have hB3 := behind hB2 (bel1 w2 (.cells #[.int .i64 i, .int .i64 z, .int .i64 n] 42))
        have x3 := boxNew w2 i z n 42
        have pj3 := (pj.below hb2).below (bel1 w2 (.cells #[.int .i64 i, .int .i64 z, .int .i64 n] 42))
        have t03 := t0.below hB3
        have t13 := t1.below hB3
        obtain ⟨x30, x31, x32⟩ := id x3
        obtain ⟨p10, -⟩ := id t13
        by_cases hin : i ∈ p
        · have hdt : decide (i ∈ p) = true := decide_eq_true hin
          rw [hdt] at cH
          go_wp2_with fail
          refine (cH _ (hrp1.below hB3)).mono ?_
          rintro e _ ⟨rfl, rfl⟩
          go_wp2
          go_roundw
          case rel => exact ⟨k + 1, by omega, by go_num, .inr ⟨j, f, hj, rfl, rfl, by rw [HS.out, HF.out, bstep_in hin, HV.out]⟩, hB3⟩
          case measure => simp [intOf]; omega
        · have hdt : decide (i ∈ p) = false := decide_eq_false hin
          rw [hdt] at cH
          obtain ⟨B, hBz⟩ : ∃ B, decide (z ∈ Z) = B := ⟨_, rfl⟩
          have HBz : Hid (decide (z ∈ Z) = B) := hBz
          rw [hBz] at cY
          clear hBz hdt
          go_wp2_with fail
          refine (cH _ (hrp1.below hB3)).mono ?_
          rintro e _ ⟨rfl, rfl⟩
          go_wp2_with fail
          refine (cY _ (hZ1.below hB3)).mono ?_
          rintro e _ ⟨rfl, rfl⟩
          cases B <;> cases f
          · -- a new zone where the best's is none
            go_wp2
            go_roundw
            case rel => exact ⟨k + 1, by omega, by go_num, .inr ⟨k, true, hlt, rfl, rfl, by rw [HS.out, HF.out, bstep_new hin (of_decide_eq_false HBz.out), HU.out]⟩, hB3⟩
            case measure => simp [intOf]; omega
          · have HE : Hid ((!decide (z ∈ Z)) = true) := by show (!decide (z ∈ Z)) = true; rw [HBz.out]; rfl
            generalize w2.alloc (.cells #[.int .i64 i, .int .i64 z, .int .i64 n] 42) = w3 at *
            have hr3 := hr1.below hB3
            have cL := fun (w' : World) (h : RdP w' a ps) => specLoad reps a ca ps i w' hps ht h
            have cM := fun (w' : World) (h : RdP w' a ps) => specLoad reps a ca ps i' w' hps ht h
            have hA9 : Rg.load ps i ≤ 1048576 := Nat.le_trans (Rg.load_le _ _) ht
            have hC9 : Rg.load ps i' ≤ 1048576 := Nat.le_trans (Rg.load_le _ _) ht
            have HL : Hid (((Rg.load ps i : Int) + 1) * n' < ((Rg.load ps i' : Int) + 1) * n → Rg.bfold ps p Z (l.take (k + 1)) = some (l[k], true)) := fun h => by rw [HS.out, HF.out, bstep_less (b := (i', z', n')) (d := (i, z, n)) hin HE.out h, HU.out]
            have HM : Hid (¬ ((Rg.load ps i : Int) + 1) * n' < ((Rg.load ps i' : Int) + 1) * n → Rg.bfold ps p Z (l.take (k + 1)) = some (l[j], true)) := fun h => by rw [HS.out, HF.out, bstep_more (b := (i', z', n')) (d := (i, z, n)) hin HE.out h, HV.out]
            generalize Rg.load ps i = A at cL hA9 HL HM
            generalize Rg.load ps i' = C at cM hC9 HL HM
            obtain ⟨e1, e2⟩ := share A n' hA9 hwj.1 hwj.2
            obtain ⟨e3, e4⟩ := share C n hC9 hw1.1 hw1.2
            obtain ⟨M, hM⟩ : ∃ M, ((A : Int) + 1) * n' = M := ⟨_, rfl⟩
            obtain ⟨N, hN⟩ : ∃ N, ((C : Int) + 1) * n = N := ⟨_, rfl⟩
            rw [hM] at e2 HL HM
            rw [hN] at e4 HL HM
            obtain ⟨⟨g0, g1⟩, -⟩ := id t03
            obtain ⟨j0, j1, j2⟩ := id pj3
            dsimp only at j0 j1 j2
            clear HE HS HF
            have hj0 : (0 : Int) ≤ (j : Int) := by omega
            have hj1 : (j : Int) < (l.length : Int) := by omega
            -- @region true
            go_upto_region 13 with fail
            refine wp_region_held_drew (S := fun wy => wy.cell? ⟨w.heap.size, 0, none⟩ = some (.int .i64 reps) ∧ wy.cell? ⟨w.heap.size, 1, none⟩ = some (.slice a ps.length ca) ∧ wy.cell? ⟨w2.heap.size, 0, none⟩ = some (.int .i64 i) ∧ wy.cell? ⟨w2.heap.size, 2, none⟩ = some (.int .i64 n) ∧ wy.cell? ⟨bl, ol + j * 3, none⟩ = some (.int .i64 i') ∧ wy.cell? ⟨bl, ol + j * 3 + 2, none⟩ = some (.int .i64 n')) (by kernel_rfl) ⟨g0, g1, x30, x32, j0, j2⟩ (fun hHeld => ?_)
            refine wpAnyH_take (i := 0) (oi := ?_) (v := ?_) ?_ ?_ ?_ ?_ ?_ ?_ (by assumption) ?_
            rotate_left 2
            · simp only [List.getElem?_toArray, List.getElem?_cons_zero]
              rfl
            · kernel_rfl
            · kernel_rfl
            · kernel_rfl
            · exact fun _ _ _ h => h
            · refine Or.inl ⟨by kernel_rfl, ?_⟩
              intro wS hSw
              try dsimp only at hSw
              go_simp
              try with_reducible rfl
            simp only [Act.put, List.setIfInBounds_toArray, List.set_cons_zero, List.set_cons_succ]
            refine wpAnyH_take (i := 1) (oi := ?_) (v := ?_) ?_ ?_ ?_ ?_ ?_ ?_ (by assumption) ?_
            rotate_left 2
            · simp only [List.getElem?_toArray, List.getElem?_cons_succ, List.getElem?_cons_zero]
              rfl
            · kernel_rfl
            · kernel_rfl
            · kernel_rfl
            · exact fun _ _ _ h => h
            · refine Or.inl ⟨by kernel_rfl, ?_⟩
              intro wS hSw
              try dsimp only at hSw
              go_simp
              try with_reducible rfl
            simp only [Act.put, List.setIfInBounds_toArray, List.set_cons_zero, List.set_cons_succ]
            refine wpAnyH_take (i := 2) (oi := ?_) (v := ?_) ?_ ?_ ?_ ?_ ?_ ?_ (by assumption) ?_
            rotate_left 2
            · simp only [List.getElem?_toArray, List.getElem?_cons_succ, List.getElem?_cons_zero]
              rfl
            · kernel_rfl
            · kernel_rfl
            · kernel_rfl
            · exact fun _ _ _ h => h
            · refine Or.inl ⟨by kernel_rfl, ?_⟩
              intro wS hSw
              try dsimp only at hSw
              go_simp
              try with_reducible rfl
            simp only [Act.put, List.setIfInBounds_toArray, List.set_cons_zero, List.set_cons_succ]
            refine wpAnyH_take (i := 3) (oi := ?_) (v := ?_) ?_ ?_ ?_ ?_ ?_ ?_ (by assumption) ?_
            rotate_left 2
            · simp only [List.getElem?_toArray, List.getElem?_cons_succ, List.getElem?_cons_zero]
              rfl
            · kernel_rfl
            · kernel_rfl
            · kernel_rfl
            · exact fun _ _ _ h => h
            · refine Or.inl ⟨by kernel_rfl, ?_⟩
              intro wS hSw
              try dsimp only at hSw
              go_simp
              try with_reducible rfl
            simp only [Act.put, List.setIfInBounds_toArray, List.set_cons_zero, List.set_cons_succ]
            refine wpAnyH_take (i := 4) (oi := ?_) (v := ?_) ?_ ?_ ?_ ?_ ?_ ?_ (by assumption) ?_
            rotate_left 2
            · simp only [List.getElem?_toArray, List.getElem?_cons_succ, List.getElem?_cons_zero]
              rfl
            · kernel_rfl
            · kernel_rfl
            · kernel_rfl
            · exact fun _ _ _ h => h
            · refine Or.inl ⟨by kernel_rfl, ?_⟩
              intro wS hSw
              try dsimp only at hSw
              go_simp
              try with_reducible rfl
            simp only [Act.put, List.setIfInBounds_toArray, List.set_cons_zero, List.set_cons_succ]
            refine wpAnyH_take (i := 5) (oi := ?_) (v := ?_) ?_ ?_ ?_ ?_ ?_ ?_ (by assumption) ?_
            rotate_left 2
            · simp only [List.getElem?_toArray, List.getElem?_cons_succ, List.getElem?_cons_zero]
              rfl
            · kernel_rfl
            · kernel_rfl
            · kernel_rfl
            · exact fun _ _ _ h => h
            · refine Or.inl ⟨by kernel_rfl, ?_⟩
              intro wS hSw
              try dsimp only at hSw
              go_simp
              try with_reducible rfl
            simp only [Act.put, List.setIfInBounds_toArray, List.set_cons_zero, List.set_cons_succ]
            refine wpAnyH_take (i := 6) (oi := ?_) (v := ?_) ?_ ?_ ?_ ?_ ?_ ?_ (by assumption) ?_
            rotate_left 2
            · simp only [List.getElem?_toArray, List.getElem?_cons_succ, List.getElem?_cons_zero]
              rfl
            · kernel_rfl
            · kernel_rfl
            · kernel_rfl
            · exact fun _ _ _ h => h
            · refine Or.inl ⟨by kernel_rfl, ?_⟩
              intro wS hSw
              try dsimp only at hSw
              go_simp
              try with_reducible rfl
            simp only [Act.put, List.setIfInBounds_toArray, List.set_cons_zero, List.set_cons_succ]
            refine wpAnyH_take (i := 9) (oi := ?_) (v := ?_) ?_ ?_ ?_ ?_ ?_ ?_ (by assumption) ?_
            rotate_left 2
            · simp only [List.getElem?_toArray, List.getElem?_cons_succ, List.getElem?_cons_zero]
              rfl
            · kernel_rfl
            · kernel_rfl
            · kernel_rfl
            · exact fun _ _ _ h => h
            · refine Or.inl ⟨by kernel_rfl, ?_⟩
              intro wS hSw
              try dsimp only at hSw
              go_simp
              try with_reducible rfl
            simp only [Act.put, List.setIfInBounds_toArray, List.set_cons_zero, List.set_cons_succ]
            refine wpAnyH_take (i := 10) (oi := ?_) (v := ?_) ?_ ?_ ?_ ?_ ?_ ?_ (by assumption) ?_
            rotate_left 2
            · simp only [List.getElem?_toArray, List.getElem?_cons_succ, List.getElem?_cons_zero]
              rfl
            · kernel_rfl
            · kernel_rfl
            · kernel_rfl
            · exact fun _ _ _ h => h
            · refine Or.inl ⟨by kernel_rfl, ?_⟩
              intro wS hSw
              try dsimp only at hSw
              go_simp
              try with_reducible rfl
            simp only [Act.put, List.setIfInBounds_toArray, List.set_cons_zero, List.set_cons_succ]
            refine wpAnyH_take (i := 11) (oi := ?_) (v := ?_) ?_ ?_ ?_ ?_ ?_ ?_ (by assumption) ?_
            rotate_left 2
            · simp only [List.getElem?_toArray, List.getElem?_cons_succ, List.getElem?_cons_zero]
              rfl
            · kernel_rfl
            · kernel_rfl
            · kernel_rfl
            · exact fun _ _ _ h => h
            · refine Or.inl ⟨by kernel_rfl, ?_⟩
              intro wS hSw
              try dsimp only at hSw
              go_simp
              try with_reducible rfl
            simp only [Act.put, List.setIfInBounds_toArray, List.set_cons_zero, List.set_cons_succ]
            refine wpAnyH_take (i := 12) (oi := ?_) (v := ?_) ?_ ?_ ?_ ?_ ?_ ?_ (by assumption) ?_
            rotate_left 2
            · simp only [List.getElem?_toArray, List.getElem?_cons_succ, List.getElem?_cons_zero]
              rfl
            · kernel_rfl
            · kernel_rfl
            · kernel_rfl
            · exact fun _ _ _ h => h
            · refine Or.inl ⟨by kernel_rfl, ?_⟩
              intro wS hSw
              try dsimp only at hSw
              go_simp
              try with_reducible rfl
            simp only [Act.put, List.setIfInBounds_toArray, List.set_cons_zero, List.set_cons_succ]
            refine wpAnyH_take (i := 13) (oi := ?_) (v := ?_) ?_ ?_ ?_ ?_ ?_ ?_ (by assumption) ?_
            rotate_left 2
            · simp only [List.getElem?_toArray, List.getElem?_cons_succ, List.getElem?_cons_zero]
              rfl
            · kernel_rfl
            · kernel_rfl
            · kernel_rfl
            · exact fun _ _ _ h => h
            · refine Or.inl ⟨by kernel_rfl, ?_⟩
              intro wS hSw
              try dsimp only at hSw
              go_simp
              try with_reducible rfl
            simp only [Act.put, List.setIfInBounds_toArray, List.set_cons_zero, List.set_cons_succ]
            refine wpAnyH_take (i := 15) (oi := ?_) (v := ?_) ?_ ?_ ?_ ?_ ?_ ?_ (by assumption) ?_
            rotate_left 2
            · simp only [List.getElem?_toArray, List.getElem?_cons_succ, List.getElem?_cons_zero]
              rfl
            · kernel_rfl
            · kernel_rfl
            · kernel_rfl
            · exact fun _ _ _ h => h
            · refine Or.inl ⟨by kernel_rfl, ?_⟩
              intro wS hSw
              try dsimp only at hSw
              go_simp
              try with_reducible rfl
            simp only [Act.put, List.setIfInBounds_toArray, List.set_cons_zero, List.set_cons_succ]
            refine wpAnyH_take (i := 16) (oi := ?_) (v := ?_) ?_ ?_ ?_ ?_ ?_ ?_ (by assumption) ?_
            rotate_left 2
            · simp only [List.getElem?_toArray, List.getElem?_cons_succ, List.getElem?_cons_zero]
              rfl
            · kernel_rfl
            · kernel_rfl
            · kernel_rfl
            · exact fun _ _ _ h => h
            · refine Or.inl ⟨by kernel_rfl, ?_⟩
              intro wS hSw
              try dsimp only at hSw
              go_simp
              try with_reducible rfl
            simp only [Act.put, List.setIfInBounds_toArray, List.set_cons_zero, List.set_cons_succ]
            refine wpAnyH_take (i := 17) (oi := ?_) (v := ?_) ?_ ?_ ?_ ?_ ?_ ?_ (by assumption) ?_
            rotate_left 2
            · simp only [List.getElem?_toArray, List.getElem?_cons_succ, List.getElem?_cons_zero]
              rfl
            · kernel_rfl
            · kernel_rfl
            · kernel_rfl
            · exact fun _ _ _ h => h
            · refine Or.inl ⟨by kernel_rfl, ?_⟩
              intro wS hSw
              try dsimp only at hSw
              go_simp
              try with_reducible rfl
            simp only [Act.put, List.setIfInBounds_toArray, List.set_cons_zero, List.set_cons_succ]
            refine wpAnyH_take (i := 18) (oi := ?_) (v := ?_) ?_ ?_ ?_ ?_ ?_ ?_ (by assumption) ?_
            rotate_left 2
            · simp only [List.getElem?_toArray, List.getElem?_cons_succ, List.getElem?_cons_zero]
              rfl
            · kernel_rfl
            · kernel_rfl
            · kernel_rfl
            · exact fun _ _ _ h => h
            · refine Or.inl ⟨by kernel_rfl, ?_⟩
              intro wS hSw
              try dsimp only at hSw
              go_simp
              try with_reducible rfl
            simp only [Act.put, List.setIfInBounds_toArray, List.set_cons_zero, List.set_cons_succ]
            refine wpAnyH_take (i := 19) (oi := ?_) (v := ?_) ?_ ?_ ?_ ?_ ?_ ?_ (by assumption) ?_
            rotate_left 2
            · simp only [List.getElem?_toArray, List.getElem?_cons_succ, List.getElem?_cons_zero]
              rfl
            · kernel_rfl
            · kernel_rfl
            · kernel_rfl
            · exact fun _ _ _ h => h
            · refine Or.inl ⟨by kernel_rfl, ?_⟩
              intro wS hSw
              try dsimp only at hSw
              go_simp
              try with_reducible rfl
            simp only [Act.put, List.setIfInBounds_toArray, List.set_cons_zero, List.set_cons_succ]
            refine wpAnyH_take (i := 20) (oi := ?_) (v := ?_) ?_ ?_ ?_ ?_ ?_ ?_ (by assumption) ?_
            rotate_left 2
            · simp only [List.getElem?_toArray, List.getElem?_cons_succ, List.getElem?_cons_zero]
              rfl
            · kernel_rfl
            · kernel_rfl
            · kernel_rfl
            · exact fun _ _ _ h => h
            · refine Or.inl ⟨by kernel_rfl, ?_⟩
              intro wS hSw
              try dsimp only at hSw
              go_simp
              try with_reducible rfl
            simp only [Act.put, List.setIfInBounds_toArray, List.set_cons_zero, List.set_cons_succ]
            refine wpAnyH_take (i := 23) (oi := ?_) (v := ?_) ?_ ?_ ?_ ?_ ?_ ?_ (by assumption) ?_
            rotate_left 2
            · simp only [List.getElem?_toArray, List.getElem?_cons_succ, List.getElem?_cons_zero]
              rfl
            · kernel_rfl
            · kernel_rfl
            · kernel_rfl
            · exact fun _ _ _ h => h
            · refine Or.inl ⟨by kernel_rfl, ?_⟩
              intro wS hSw
              try dsimp only at hSw
              go_simp
              try with_reducible rfl
            simp only [Act.put, List.setIfInBounds_toArray, List.set_cons_zero, List.set_cons_succ]
            refine wpAnyH_take (i := 24) (oi := ?_) (v := ?_) ?_ ?_ ?_ ?_ ?_ ?_ (by assumption) ?_
            rotate_left 2
            · simp only [List.getElem?_toArray, List.getElem?_cons_succ, List.getElem?_cons_zero]
              rfl
            · kernel_rfl
            · kernel_rfl
            · kernel_rfl
            · exact fun _ _ _ h => h
            · refine Or.inl ⟨by kernel_rfl, ?_⟩
              intro wS hSw
              try dsimp only at hSw
              go_simp
              try with_reducible rfl
            simp only [Act.put, List.setIfInBounds_toArray, List.set_cons_zero, List.set_cons_succ]
            refine wpAnyH_ready (rs := [7]) (by kernel_rfl) (by simp) ?_
            refine AllReadyH.cons rfl (fun K hK => ?_) ?_
            rotate_left
            · exact AllReadyH.nil
            go_simp
            refine (cL _ (by exact hr3)).mono ?_
            rintro e w4 ⟨rfl, hb4⟩
            go_wp2_with fail
            refine hK.out _ _ ?_ (fun hHeld => ?_)
            · exact keepB hHeld hb4
            clear hK K
            try simp only [Act.put, List.setIfInBounds_toArray, List.set_cons_zero, List.set_cons_succ]
            refine wpAnyH_take (i := 8) (oi := ?_) (v := ?_) ?_ ?_ ?_ ?_ ?_ ?_ (by assumption) ?_
            rotate_left 2
            · simp only [List.getElem?_toArray, List.getElem?_cons_succ, List.getElem?_cons_zero]
              rfl
            · kernel_rfl
            · kernel_rfl
            · kernel_rfl
            · exact fun _ _ _ h => h
            · refine Or.inl ⟨by kernel_rfl, ?_⟩
              intro wS hSw
              try dsimp only at hSw
              go_simp
              try with_reducible rfl
            simp only [Act.put, List.setIfInBounds_toArray, List.set_cons_zero, List.set_cons_succ]
            refine wpAnyH_take (i := 14) (oi := ?_) (v := ?_) ?_ ?_ ?_ ?_ ?_ ?_ (by assumption) ?_
            rotate_left 2
            · simp only [List.getElem?_toArray, List.getElem?_cons_succ, List.getElem?_cons_zero]
              rfl
            · kernel_rfl
            · kernel_rfl
            · kernel_rfl
            · exact fun _ _ _ h => h
            · refine Or.inl ⟨by kernel_rfl, ?_⟩
              intro wS hSw
              try dsimp only at hSw
              go_simp
              try with_reducible rfl
            simp only [Act.put, List.setIfInBounds_toArray, List.set_cons_zero, List.set_cons_succ]
            refine wpAnyH_ready (rs := [21]) (by kernel_rfl) (by simp) ?_
            refine AllReadyH.cons rfl (fun K hK => ?_) ?_
            rotate_left
            · exact AllReadyH.nil
            go_simp
            refine (cM _ (RdP.below (w := w3.drew) (by exact hr3) hb4)).mono ?_
            rintro e w5 ⟨rfl, hb5⟩
            go_wp2_with fail
            refine hK.out _ _ ?_ (fun hHeld => ?_)
            · exact keepB hHeld hb5
            clear hK K
            try simp only [Act.put, List.setIfInBounds_toArray, List.set_cons_zero, List.set_cons_succ]
            refine wpAnyH_take (i := 22) (oi := ?_) (v := ?_) ?_ ?_ ?_ ?_ ?_ ?_ (by assumption) ?_
            rotate_left 2
            · simp only [List.getElem?_toArray, List.getElem?_cons_succ, List.getElem?_cons_zero]
              rfl
            · kernel_rfl
            · kernel_rfl
            · kernel_rfl
            · exact fun _ _ _ h => h
            · refine Or.inl ⟨by kernel_rfl, ?_⟩
              intro wS hSw
              try dsimp only at hSw
              go_simp
              try with_reducible rfl
            simp only [Act.put, List.setIfInBounds_toArray, List.set_cons_zero, List.set_cons_succ]
            refine wpAnyH_take (i := 25) (oi := ?_) (v := ?_) ?_ ?_ ?_ ?_ ?_ ?_ (by assumption) ?_
            rotate_left 2
            · simp only [List.getElem?_toArray, List.getElem?_cons_succ, List.getElem?_cons_zero]
              rfl
            · kernel_rfl
            · kernel_rfl
            · kernel_rfl
            · exact fun _ _ _ h => h
            · refine Or.inl ⟨by kernel_rfl, ?_⟩
              intro wS hSw
              try dsimp only at hSw
              go_simp
              try with_reducible rfl
            simp only [Act.put, List.setIfInBounds_toArray, List.set_cons_zero, List.set_cons_succ]
            refine wpAnyH_take (i := 26) (oi := ?_) (v := ?_) ?_ ?_ ?_ ?_ ?_ ?_ (by assumption) ?_
            rotate_left 2
            · simp only [List.getElem?_toArray, List.getElem?_cons_succ, List.getElem?_cons_zero]
              rfl
            · kernel_rfl
            · kernel_rfl
            · kernel_rfl
            · exact fun _ _ _ h => h
            · refine Or.inl ⟨by kernel_rfl, ?_⟩
              intro wS hSw
              try dsimp only at hSw
              go_simp
              try with_reducible rfl
            simp only [Act.put, List.setIfInBounds_toArray, List.set_cons_zero, List.set_cons_succ]
            refine wpAnyH_take (i := 27) (oi := ?_) (v := ?_) ?_ ?_ ?_ ?_ ?_ ?_ (by assumption) ?_
            rotate_left 2
            · simp only [List.getElem?_toArray, List.getElem?_cons_succ, List.getElem?_cons_zero]
              rfl
            · kernel_rfl
            · kernel_rfl
            · kernel_rfl
            · exact fun _ _ _ h => h
            · refine Or.inl ⟨by kernel_rfl, ?_⟩
              intro wS hSw
              try dsimp only at hSw
              go_simp
              try with_reducible rfl
            simp only [Act.put, List.setIfInBounds_toArray, List.set_cons_zero, List.set_cons_succ]
            refine wpAnyH_done (by kernel_rfl) ?_ _
            by_cases hcmp : M < N
            · go_wp2
              go_roundw
              case rel => exact ⟨k + 1, by omega, by go_num, .inr ⟨k, true, hlt, rfl, rfl, HL.out hcmp⟩, behind (behind hB3.drew hb4) hb5⟩
              case measure => simp [intOf]; omega
            · go_wp2
              go_roundw
              case rel => exact ⟨k + 1, by omega, by go_num, .inr ⟨j, true, hj, rfl, rfl, HM.out (by omega)⟩, behind (behind hB3.drew hb4) hb5⟩
              case measure => simp [intOf]; omega
            -- @end
          · have HE : Hid ((!decide (z ∈ Z)) = false) := by show (!decide (z ∈ Z)) = false; rw [HBz.out]; rfl
            generalize w2.alloc (.cells #[.int .i64 i, .int .i64 z, .int .i64 n] 42) = w3 at *
            have hr3 := hr1.below hB3
            have cL := fun (w' : World) (h : RdP w' a ps) => specLoad reps a ca ps i w' hps ht h
            have cM := fun (w' : World) (h : RdP w' a ps) => specLoad reps a ca ps i' w' hps ht h
            have hA9 : Rg.load ps i ≤ 1048576 := Nat.le_trans (Rg.load_le _ _) ht
            have hC9 : Rg.load ps i' ≤ 1048576 := Nat.le_trans (Rg.load_le _ _) ht
            have HL : Hid (((Rg.load ps i : Int) + 1) * n' < ((Rg.load ps i' : Int) + 1) * n → Rg.bfold ps p Z (l.take (k + 1)) = some (l[k], false)) := fun h => by rw [HS.out, HF.out, bstep_less (b := (i', z', n')) (d := (i, z, n)) hin HE.out h, HU.out]
            have HM : Hid (¬ ((Rg.load ps i : Int) + 1) * n' < ((Rg.load ps i' : Int) + 1) * n → Rg.bfold ps p Z (l.take (k + 1)) = some (l[j], false)) := fun h => by rw [HS.out, HF.out, bstep_more (b := (i', z', n')) (d := (i, z, n)) hin HE.out h, HV.out]
            generalize Rg.load ps i = A at cL hA9 HL HM
            generalize Rg.load ps i' = C at cM hC9 HL HM
            obtain ⟨e1, e2⟩ := share A n' hA9 hwj.1 hwj.2
            obtain ⟨e3, e4⟩ := share C n hC9 hw1.1 hw1.2
            obtain ⟨M, hM⟩ : ∃ M, ((A : Int) + 1) * n' = M := ⟨_, rfl⟩
            obtain ⟨N, hN⟩ : ∃ N, ((C : Int) + 1) * n = N := ⟨_, rfl⟩
            rw [hM] at e2 HL HM
            rw [hN] at e4 HL HM
            obtain ⟨⟨g0, g1⟩, -⟩ := id t03
            obtain ⟨j0, j1, j2⟩ := id pj3
            dsimp only at j0 j1 j2
            clear HE HS HF
            have hj0 : (0 : Int) ≤ (j : Int) := by omega
            have hj1 : (j : Int) < (l.length : Int) := by omega
            -- @region false
            go_upto_region 13 with fail
            refine wp_region_held_drew (S := fun wy => wy.cell? ⟨w.heap.size, 0, none⟩ = some (.int .i64 reps) ∧ wy.cell? ⟨w.heap.size, 1, none⟩ = some (.slice a ps.length ca) ∧ wy.cell? ⟨w2.heap.size, 0, none⟩ = some (.int .i64 i) ∧ wy.cell? ⟨w2.heap.size, 2, none⟩ = some (.int .i64 n) ∧ wy.cell? ⟨bl, ol + j * 3, none⟩ = some (.int .i64 i') ∧ wy.cell? ⟨bl, ol + j * 3 + 2, none⟩ = some (.int .i64 n')) (by kernel_rfl) ⟨g0, g1, x30, x32, j0, j2⟩ (fun hHeld => ?_)
            refine wpAnyH_take (i := 0) (oi := ?_) (v := ?_) ?_ ?_ ?_ ?_ ?_ ?_ (by assumption) ?_
            rotate_left 2
            · simp only [List.getElem?_toArray, List.getElem?_cons_zero]
              rfl
            · kernel_rfl
            · kernel_rfl
            · kernel_rfl
            · exact fun _ _ _ h => h
            · refine Or.inl ⟨by kernel_rfl, ?_⟩
              intro wS hSw
              try dsimp only at hSw
              go_simp
              try with_reducible rfl
            simp only [Act.put, List.setIfInBounds_toArray, List.set_cons_zero, List.set_cons_succ]
            refine wpAnyH_take (i := 1) (oi := ?_) (v := ?_) ?_ ?_ ?_ ?_ ?_ ?_ (by assumption) ?_
            rotate_left 2
            · simp only [List.getElem?_toArray, List.getElem?_cons_succ, List.getElem?_cons_zero]
              rfl
            · kernel_rfl
            · kernel_rfl
            · kernel_rfl
            · exact fun _ _ _ h => h
            · refine Or.inl ⟨by kernel_rfl, ?_⟩
              intro wS hSw
              try dsimp only at hSw
              go_simp
              try with_reducible rfl
            simp only [Act.put, List.setIfInBounds_toArray, List.set_cons_zero, List.set_cons_succ]
            refine wpAnyH_take (i := 2) (oi := ?_) (v := ?_) ?_ ?_ ?_ ?_ ?_ ?_ (by assumption) ?_
            rotate_left 2
            · simp only [List.getElem?_toArray, List.getElem?_cons_succ, List.getElem?_cons_zero]
              rfl
            · kernel_rfl
            · kernel_rfl
            · kernel_rfl
            · exact fun _ _ _ h => h
            · refine Or.inl ⟨by kernel_rfl, ?_⟩
              intro wS hSw
              try dsimp only at hSw
              go_simp
              try with_reducible rfl
            simp only [Act.put, List.setIfInBounds_toArray, List.set_cons_zero, List.set_cons_succ]
            refine wpAnyH_take (i := 3) (oi := ?_) (v := ?_) ?_ ?_ ?_ ?_ ?_ ?_ (by assumption) ?_
            rotate_left 2
            · simp only [List.getElem?_toArray, List.getElem?_cons_succ, List.getElem?_cons_zero]
              rfl
            · kernel_rfl
            · kernel_rfl
            · kernel_rfl
            · exact fun _ _ _ h => h
            · refine Or.inl ⟨by kernel_rfl, ?_⟩
              intro wS hSw
              try dsimp only at hSw
              go_simp
              try with_reducible rfl
            simp only [Act.put, List.setIfInBounds_toArray, List.set_cons_zero, List.set_cons_succ]
            refine wpAnyH_take (i := 4) (oi := ?_) (v := ?_) ?_ ?_ ?_ ?_ ?_ ?_ (by assumption) ?_
            rotate_left 2
            · simp only [List.getElem?_toArray, List.getElem?_cons_succ, List.getElem?_cons_zero]
              rfl
            · kernel_rfl
            · kernel_rfl
            · kernel_rfl
            · exact fun _ _ _ h => h
            · refine Or.inl ⟨by kernel_rfl, ?_⟩
              intro wS hSw
              try dsimp only at hSw
              go_simp
              try with_reducible rfl
            simp only [Act.put, List.setIfInBounds_toArray, List.set_cons_zero, List.set_cons_succ]
            refine wpAnyH_take (i := 5) (oi := ?_) (v := ?_) ?_ ?_ ?_ ?_ ?_ ?_ (by assumption) ?_
            rotate_left 2
            · simp only [List.getElem?_toArray, List.getElem?_cons_succ, List.getElem?_cons_zero]
              rfl
            · kernel_rfl
            · kernel_rfl
            · kernel_rfl
            · exact fun _ _ _ h => h
            · refine Or.inl ⟨by kernel_rfl, ?_⟩
              intro wS hSw
              try dsimp only at hSw
              go_simp
              try with_reducible rfl
            simp only [Act.put, List.setIfInBounds_toArray, List.set_cons_zero, List.set_cons_succ]
            refine wpAnyH_take (i := 6) (oi := ?_) (v := ?_) ?_ ?_ ?_ ?_ ?_ ?_ (by assumption) ?_
            rotate_left 2
            · simp only [List.getElem?_toArray, List.getElem?_cons_succ, List.getElem?_cons_zero]
              rfl
            · kernel_rfl
            · kernel_rfl
            · kernel_rfl
            · exact fun _ _ _ h => h
            · refine Or.inl ⟨by kernel_rfl, ?_⟩
              intro wS hSw
              try dsimp only at hSw
              go_simp
              try with_reducible rfl
            simp only [Act.put, List.setIfInBounds_toArray, List.set_cons_zero, List.set_cons_succ]
            refine wpAnyH_take (i := 9) (oi := ?_) (v := ?_) ?_ ?_ ?_ ?_ ?_ ?_ (by assumption) ?_
            rotate_left 2
            · simp only [List.getElem?_toArray, List.getElem?_cons_succ, List.getElem?_cons_zero]
              rfl
            · kernel_rfl
            · kernel_rfl
            · kernel_rfl
            · exact fun _ _ _ h => h
            · refine Or.inl ⟨by kernel_rfl, ?_⟩
              intro wS hSw
              try dsimp only at hSw
              go_simp
              try with_reducible rfl
            simp only [Act.put, List.setIfInBounds_toArray, List.set_cons_zero, List.set_cons_succ]
            refine wpAnyH_take (i := 10) (oi := ?_) (v := ?_) ?_ ?_ ?_ ?_ ?_ ?_ (by assumption) ?_
            rotate_left 2
            · simp only [List.getElem?_toArray, List.getElem?_cons_succ, List.getElem?_cons_zero]
              rfl
            · kernel_rfl
            · kernel_rfl
            · kernel_rfl
            · exact fun _ _ _ h => h
            · refine Or.inl ⟨by kernel_rfl, ?_⟩
              intro wS hSw
              try dsimp only at hSw
              go_simp
              try with_reducible rfl
            simp only [Act.put, List.setIfInBounds_toArray, List.set_cons_zero, List.set_cons_succ]
            refine wpAnyH_take (i := 11) (oi := ?_) (v := ?_) ?_ ?_ ?_ ?_ ?_ ?_ (by assumption) ?_
            rotate_left 2
            · simp only [List.getElem?_toArray, List.getElem?_cons_succ, List.getElem?_cons_zero]
              rfl
            · kernel_rfl
            · kernel_rfl
            · kernel_rfl
            · exact fun _ _ _ h => h
            · refine Or.inl ⟨by kernel_rfl, ?_⟩
              intro wS hSw
              try dsimp only at hSw
              go_simp
              try with_reducible rfl
            simp only [Act.put, List.setIfInBounds_toArray, List.set_cons_zero, List.set_cons_succ]
            refine wpAnyH_take (i := 12) (oi := ?_) (v := ?_) ?_ ?_ ?_ ?_ ?_ ?_ (by assumption) ?_
            rotate_left 2
            · simp only [List.getElem?_toArray, List.getElem?_cons_succ, List.getElem?_cons_zero]
              rfl
            · kernel_rfl
            · kernel_rfl
            · kernel_rfl
            · exact fun _ _ _ h => h
            · refine Or.inl ⟨by kernel_rfl, ?_⟩
              intro wS hSw
              try dsimp only at hSw
              go_simp
              try with_reducible rfl
            simp only [Act.put, List.setIfInBounds_toArray, List.set_cons_zero, List.set_cons_succ]
            refine wpAnyH_take (i := 13) (oi := ?_) (v := ?_) ?_ ?_ ?_ ?_ ?_ ?_ (by assumption) ?_
            rotate_left 2
            · simp only [List.getElem?_toArray, List.getElem?_cons_succ, List.getElem?_cons_zero]
              rfl
            · kernel_rfl
            · kernel_rfl
            · kernel_rfl
            · exact fun _ _ _ h => h
            · refine Or.inl ⟨by kernel_rfl, ?_⟩
              intro wS hSw
              try dsimp only at hSw
              go_simp
              try with_reducible rfl
            simp only [Act.put, List.setIfInBounds_toArray, List.set_cons_zero, List.set_cons_succ]
            refine wpAnyH_take (i := 15) (oi := ?_) (v := ?_) ?_ ?_ ?_ ?_ ?_ ?_ (by assumption) ?_
            rotate_left 2
            · simp only [List.getElem?_toArray, List.getElem?_cons_succ, List.getElem?_cons_zero]
              rfl
            · kernel_rfl
            · kernel_rfl
            · kernel_rfl
            · exact fun _ _ _ h => h
            · refine Or.inl ⟨by kernel_rfl, ?_⟩
              intro wS hSw
              try dsimp only at hSw
              go_simp
              try with_reducible rfl
            simp only [Act.put, List.setIfInBounds_toArray, List.set_cons_zero, List.set_cons_succ]
            refine wpAnyH_take (i := 16) (oi := ?_) (v := ?_) ?_ ?_ ?_ ?_ ?_ ?_ (by assumption) ?_
            rotate_left 2
            · simp only [List.getElem?_toArray, List.getElem?_cons_succ, List.getElem?_cons_zero]
              rfl
            · kernel_rfl
            · kernel_rfl
            · kernel_rfl
            · exact fun _ _ _ h => h
            · refine Or.inl ⟨by kernel_rfl, ?_⟩
              intro wS hSw
              try dsimp only at hSw
              go_simp
              try with_reducible rfl
            simp only [Act.put, List.setIfInBounds_toArray, List.set_cons_zero, List.set_cons_succ]
            refine wpAnyH_take (i := 17) (oi := ?_) (v := ?_) ?_ ?_ ?_ ?_ ?_ ?_ (by assumption) ?_
            rotate_left 2
            · simp only [List.getElem?_toArray, List.getElem?_cons_succ, List.getElem?_cons_zero]
              rfl
            · kernel_rfl
            · kernel_rfl
            · kernel_rfl
            · exact fun _ _ _ h => h
            · refine Or.inl ⟨by kernel_rfl, ?_⟩
              intro wS hSw
              try dsimp only at hSw
              go_simp
              try with_reducible rfl
            simp only [Act.put, List.setIfInBounds_toArray, List.set_cons_zero, List.set_cons_succ]
            refine wpAnyH_take (i := 18) (oi := ?_) (v := ?_) ?_ ?_ ?_ ?_ ?_ ?_ (by assumption) ?_
            rotate_left 2
            · simp only [List.getElem?_toArray, List.getElem?_cons_succ, List.getElem?_cons_zero]
              rfl
            · kernel_rfl
            · kernel_rfl
            · kernel_rfl
            · exact fun _ _ _ h => h
            · refine Or.inl ⟨by kernel_rfl, ?_⟩
              intro wS hSw
              try dsimp only at hSw
              go_simp
              try with_reducible rfl
            simp only [Act.put, List.setIfInBounds_toArray, List.set_cons_zero, List.set_cons_succ]
            refine wpAnyH_take (i := 19) (oi := ?_) (v := ?_) ?_ ?_ ?_ ?_ ?_ ?_ (by assumption) ?_
            rotate_left 2
            · simp only [List.getElem?_toArray, List.getElem?_cons_succ, List.getElem?_cons_zero]
              rfl
            · kernel_rfl
            · kernel_rfl
            · kernel_rfl
            · exact fun _ _ _ h => h
            · refine Or.inl ⟨by kernel_rfl, ?_⟩
              intro wS hSw
              try dsimp only at hSw
              go_simp
              try with_reducible rfl
            simp only [Act.put, List.setIfInBounds_toArray, List.set_cons_zero, List.set_cons_succ]
            refine wpAnyH_take (i := 20) (oi := ?_) (v := ?_) ?_ ?_ ?_ ?_ ?_ ?_ (by assumption) ?_
            rotate_left 2
            · simp only [List.getElem?_toArray, List.getElem?_cons_succ, List.getElem?_cons_zero]
              rfl
            · kernel_rfl
            · kernel_rfl
            · kernel_rfl
            · exact fun _ _ _ h => h
            · refine Or.inl ⟨by kernel_rfl, ?_⟩
              intro wS hSw
              try dsimp only at hSw
              go_simp
              try with_reducible rfl
            simp only [Act.put, List.setIfInBounds_toArray, List.set_cons_zero, List.set_cons_succ]
            refine wpAnyH_take (i := 23) (oi := ?_) (v := ?_) ?_ ?_ ?_ ?_ ?_ ?_ (by assumption) ?_
            rotate_left 2
            · simp only [List.getElem?_toArray, List.getElem?_cons_succ, List.getElem?_cons_zero]
              rfl
            · kernel_rfl
            · kernel_rfl
            · kernel_rfl
            · exact fun _ _ _ h => h
            · refine Or.inl ⟨by kernel_rfl, ?_⟩
              intro wS hSw
              try dsimp only at hSw
              go_simp
              try with_reducible rfl
            simp only [Act.put, List.setIfInBounds_toArray, List.set_cons_zero, List.set_cons_succ]
            refine wpAnyH_take (i := 24) (oi := ?_) (v := ?_) ?_ ?_ ?_ ?_ ?_ ?_ (by assumption) ?_
            rotate_left 2
            · simp only [List.getElem?_toArray, List.getElem?_cons_succ, List.getElem?_cons_zero]
              rfl
            · kernel_rfl
            · kernel_rfl
            · kernel_rfl
            · exact fun _ _ _ h => h
            · refine Or.inl ⟨by kernel_rfl, ?_⟩
              intro wS hSw
              try dsimp only at hSw
              go_simp
              try with_reducible rfl
            simp only [Act.put, List.setIfInBounds_toArray, List.set_cons_zero, List.set_cons_succ]
            refine wpAnyH_ready (rs := [7]) (by kernel_rfl) (by simp) ?_
            refine AllReadyH.cons rfl (fun K hK => ?_) ?_
            rotate_left
            · exact AllReadyH.nil
            go_simp
            refine (cL _ (by exact hr3)).mono ?_
            rintro e w4 ⟨rfl, hb4⟩
            go_wp2_with fail
            refine hK.out _ _ ?_ (fun hHeld => ?_)
            · exact keepB hHeld hb4
            clear hK K
            try simp only [Act.put, List.setIfInBounds_toArray, List.set_cons_zero, List.set_cons_succ]
            refine wpAnyH_take (i := 8) (oi := ?_) (v := ?_) ?_ ?_ ?_ ?_ ?_ ?_ (by assumption) ?_
            rotate_left 2
            · simp only [List.getElem?_toArray, List.getElem?_cons_succ, List.getElem?_cons_zero]
              rfl
            · kernel_rfl
            · kernel_rfl
            · kernel_rfl
            · exact fun _ _ _ h => h
            · refine Or.inl ⟨by kernel_rfl, ?_⟩
              intro wS hSw
              try dsimp only at hSw
              go_simp
              try with_reducible rfl
            simp only [Act.put, List.setIfInBounds_toArray, List.set_cons_zero, List.set_cons_succ]
            refine wpAnyH_take (i := 14) (oi := ?_) (v := ?_) ?_ ?_ ?_ ?_ ?_ ?_ (by assumption) ?_
            rotate_left 2
            · simp only [List.getElem?_toArray, List.getElem?_cons_succ, List.getElem?_cons_zero]
              rfl
            · kernel_rfl
            · kernel_rfl
            · kernel_rfl
            · exact fun _ _ _ h => h
            · refine Or.inl ⟨by kernel_rfl, ?_⟩
              intro wS hSw
              try dsimp only at hSw
              go_simp
              try with_reducible rfl
            simp only [Act.put, List.setIfInBounds_toArray, List.set_cons_zero, List.set_cons_succ]
            refine wpAnyH_ready (rs := [21]) (by kernel_rfl) (by simp) ?_
            refine AllReadyH.cons rfl (fun K hK => ?_) ?_
            rotate_left
            · exact AllReadyH.nil
            go_simp
            refine (cM _ (RdP.below (w := w3.drew) (by exact hr3) hb4)).mono ?_
            rintro e w5 ⟨rfl, hb5⟩
            go_wp2_with fail
            refine hK.out _ _ ?_ (fun hHeld => ?_)
            · exact keepB hHeld hb5
            clear hK K
            try simp only [Act.put, List.setIfInBounds_toArray, List.set_cons_zero, List.set_cons_succ]
            refine wpAnyH_take (i := 22) (oi := ?_) (v := ?_) ?_ ?_ ?_ ?_ ?_ ?_ (by assumption) ?_
            rotate_left 2
            · simp only [List.getElem?_toArray, List.getElem?_cons_succ, List.getElem?_cons_zero]
              rfl
            · kernel_rfl
            · kernel_rfl
            · kernel_rfl
            · exact fun _ _ _ h => h
            · refine Or.inl ⟨by kernel_rfl, ?_⟩
              intro wS hSw
              try dsimp only at hSw
              go_simp
              try with_reducible rfl
            simp only [Act.put, List.setIfInBounds_toArray, List.set_cons_zero, List.set_cons_succ]
            refine wpAnyH_take (i := 25) (oi := ?_) (v := ?_) ?_ ?_ ?_ ?_ ?_ ?_ (by assumption) ?_
            rotate_left 2
            · simp only [List.getElem?_toArray, List.getElem?_cons_succ, List.getElem?_cons_zero]
              rfl
            · kernel_rfl
            · kernel_rfl
            · kernel_rfl
            · exact fun _ _ _ h => h
            · refine Or.inl ⟨by kernel_rfl, ?_⟩
              intro wS hSw
              try dsimp only at hSw
              go_simp
              try with_reducible rfl
            simp only [Act.put, List.setIfInBounds_toArray, List.set_cons_zero, List.set_cons_succ]
            refine wpAnyH_take (i := 26) (oi := ?_) (v := ?_) ?_ ?_ ?_ ?_ ?_ ?_ (by assumption) ?_
            rotate_left 2
            · simp only [List.getElem?_toArray, List.getElem?_cons_succ, List.getElem?_cons_zero]
              rfl
            · kernel_rfl
            · kernel_rfl
            · kernel_rfl
            · exact fun _ _ _ h => h
            · refine Or.inl ⟨by kernel_rfl, ?_⟩
              intro wS hSw
              try dsimp only at hSw
              go_simp
              try with_reducible rfl
            simp only [Act.put, List.setIfInBounds_toArray, List.set_cons_zero, List.set_cons_succ]
            refine wpAnyH_take (i := 27) (oi := ?_) (v := ?_) ?_ ?_ ?_ ?_ ?_ ?_ (by assumption) ?_
            rotate_left 2
            · simp only [List.getElem?_toArray, List.getElem?_cons_succ, List.getElem?_cons_zero]
              rfl
            · kernel_rfl
            · kernel_rfl
            · kernel_rfl
            · exact fun _ _ _ h => h
            · refine Or.inl ⟨by kernel_rfl, ?_⟩
              intro wS hSw
              try dsimp only at hSw
              go_simp
              try with_reducible rfl
            simp only [Act.put, List.setIfInBounds_toArray, List.set_cons_zero, List.set_cons_succ]
            refine wpAnyH_done (by kernel_rfl) ?_ _
            by_cases hcmp : M < N
            · go_wp2
              go_roundw
              case rel => exact ⟨k + 1, by omega, by go_num, .inr ⟨k, false, hlt, rfl, rfl, HL.out hcmp⟩, behind (behind hB3.drew hb4) hb5⟩
              case measure => simp [intOf]; omega
            · go_wp2
              go_roundw
              case rel => exact ⟨k + 1, by omega, by go_num, .inr ⟨j, false, hj, rfl, rfl, HM.out (by omega)⟩, behind (behind hB3.drew hb4) hb5⟩
              case measure => simp [intOf]; omega
            -- @end
          · -- the best's zone is a new one, this one's is not
            go_wp2_with fail
            go_quiet (fail)
            go_wp2
            go_roundw
            case rel => exact ⟨k + 1, by omega, by go_num, .inr ⟨j, true, hj, rfl, rfl, by rw [HS.out, HF.out, bstep_other hin (of_decide_eq_true HBz.out), HV.out]⟩, belowDN hB3 nq⟩
            case measure => simp [intOf]; omega
    · have hke : l.take k = l := List.take_of_length_le (by omega)
      rcases HB.out with ⟨rfl, rfl, hf⟩ | ⟨j, f, hj, rfl, rfl, hf⟩
      · have e9 : G = -1 := by
          rw [← HG.out]
          exact best_none (by rw [HZ.out, ← hke]; rw [hke] at hf ⊢; exact hf)
        subst e9
        clear HB hf HG
        go_wp2
        go_ret
        exact ⟨rfl, behind hB1 hb⟩
      · have e9 : G = l[j].1 := by
          rw [← HG.out]
          exact best_some HD.out (by rw [HZ.out]; rw [hke] at hf; exact hf)
        obtain ⟨bl, ol, rfl, p0, -⟩ := (hrl1.below hb) j hj
        rw [← e9] at p0
        clear HB hf HG e9
        go_wp2
        go_ret
        exact ⟨rfl, behind hB1 hb⟩

theorem specBest (reps : Int) (a b c : Option Addr) (ca cb cc : Nat) (ps : List (List Int)) (p : List Int) (l : List Sm.St) (w : World) (hps : ps.length ≤ 1048576) (ht : tot ps ≤ 1048576) (hp : p.length ≤ 1048576) (hl : l.length ≤ 1048576) (hr : RdP w a ps) (hrp : RdZ w b p) (hrl : RdS w c l) :
    Calls Try.prog 21 #[.agg #[.int .i64 reps, .slice a ps.length ca], .agg #[.slice b p.length cb], .slice c l.length cc] w fun e w' => e = .returned (.int .i64 (Rg.best ps p l)) ∧ Below w.heap.size w w' := by
  cases hd : Dv.devs l with
  | false => exact specBestNo reps a b c ca cb cc ps p l w hp hl hrp hrl hd
  | true => exact specBestYes reps a b c ca cb cc ps p l w hps ht hp hr hrp hrl hd
end Go.Proofs.Ytcejeiakgmamdac.Wk
