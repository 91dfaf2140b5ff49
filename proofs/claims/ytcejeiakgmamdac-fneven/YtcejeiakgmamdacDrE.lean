/- What DrawEqual of the specification comes to: devices that are right, all of one zone and one weight. -/
import Derived.Test.YtcejeiakgmamdacDr6
import Derived.Test.YtcejeiakgmamdacRsM
namespace Go.Proofs.Ytcejeiakgmamdac.Wk
set_option linter.unusedVariables false
open Go.ChangeShapes Go.WideShapes Go.ChangeAt Go.RowKit

/-- the first k devices turned: zone 3, this weight -/
def eqU (W : Int) (X : List Sm.St) (k : Nat) : List Sm.St := (X.take k).map (fun d => (d.1, (3 : Int), W)) ++ X.drop k
theorem eqU_len (W : Int) (X : List Sm.St) (k : Nat) (h : k ≤ X.length) : (eqU W X k).length = X.length := by simp [eqU]; omega
theorem eqU_step (W : Int) (X : List Sm.St) (k : Nat) (hk : k < X.length) : (eqU W X k).set k (X[k].1, 3, W) = eqU W X (k + 1) := by
  have hl : ((X.take k).map (fun d => (d.1, (3 : Int), W))).length = k := by simp; omega
  unfold eqU
  rw [List.drop_eq_getElem_cons hk, List.set_append_right _ _ (by omega), hl, Nat.sub_self, List.set_cons_zero, List.take_succ_eq_append_getElem hk, List.map_append, List.append_assoc]
  rfl
theorem eqU_get (W : Int) (X : List Sm.St) (k : Nat) (hk : k < X.length) (h : k < (eqU W X k).length) : (eqU W X k)[k] = X[k] := by
  have hl : ((X.take k).map (fun d => (d.1, (3 : Int), W))).length = k := by simp; omega
  have e : (eqU W X k)[k]? = some X[k] := by
    unfold eqU
    rw [List.getElem?_append_right (by omega), hl, Nat.sub_self, List.getElem?_drop, Nat.add_zero, List.getElem?_eq_getElem hk]
  rw [List.getElem?_eq_getElem h] at e
  exact Option.some.inj e
theorem eqU_devs {W : Int} {X : List Sm.St} (hd : Dv.devs X = true) (h1 : 1 ≤ W) (h2 : W ≤ 1000) : Dv.devs (X.map fun d => (d.1, (3 : Int), W)) = true := by
  obtain ⟨⟨a, b⟩, hdv⟩ := Dv.devs_dev hd
  refine devs_of (fun d hd' => ?_) ?_ (by simpa using a) (by simpa using b)
  · obtain ⟨e, he, rfl⟩ := List.mem_map.1 hd'
    have h := hdv e he
    simp only [Dv.dev, Bool.and_eq_true, decide_eq_true_eq] at h ⊢
    omega
  · rw [List.pairwise_map, List.pairwise_iff_getElem]
    intro i j hi hj hij
    exact Dv.devs_rise hd j hj i hij

set_option maxHeartbeats 4000000 in
set_option maxRecDepth 100000 in
theorem drawEqual (a : Option Addr) (cap : Nat) (l : List UInt8) (w : World) (hl : l.length ≤ 1048576) (hr : RdA w a l) :
    Calls Try.prog 16 #[.slice a l.length cap] w fun e w' => ∃ (X : List Sm.St) (g cp : Nat) (W : Int), e = .returned (.slice (some ⟨g, 0, none⟩) X.length cp) ∧ 2 ≤ X.length ∧ X.length ≤ 6 ∧ Dv.devs X = true ∧ (∀ d ∈ X, d.2.2 = W) ∧ (∀ d ∈ X, d.2.1 = 3) ∧
      RdS w' (some ⟨g, 0, none⟩) X ∧ Below w.heap.size w w' := by
  go_enter Try.func16, Try.ntmps16
  go_wp2_with fail
  refine (l1New a cap l _ hl hr).mono ?_
  rintro e w1 ⟨rfl, hc1, hb1⟩
  have hC1 := hc1.lt
  go_wp2_with fail
  refine (l4DrawR w.heap.size l _ hc1).mono ?_
  rintro e w2 ⟨X, g, cp, rfl, hX2, hX6, -, hgg, hown, hc2, hg2, hdv⟩
  have hC2 := hc2.lt
  have hB2 := belowOf hb1 hg2 (Nat.le_refl _)
  have hI2 := rdiNew (w := w2) (t := 3) (ns := [1, 7, 1000]) (cs := #[.int .i64 1, .int .i64 7, .int .i64 1000]) rfl
  have b2 := bel1 w2 (.cells #[.int .i64 1, .int .i64 7, .int .i64 1000] 3)
  go_wp2_with fail
  refine (l1Int w.heap.size w2.heap.size 0 _ 3 l [1, 7, 1000] _ rfl (hc2.below b2) (by simp) (by simp) hI2 (by omega)).mono ?_
  rintro e w3 ⟨j, hj, rfl, hc3, hg3⟩
  have hW := inF [1, 7, 1000] 1 1000 (by decide) j hj
  generalize ([1, 7, 1000] : List Int)[j] = W at hW
  have hB3 := belowOf (behind hB2 b2) hg3 (Nat.le_refl _)
  have hown3 := keptC (World.ownsRow.alloc hown _) hg3 hC1
  clear hj hI2 b2 hc3 hg3 hg2 hown hb1 hB2 hc1 hc2
  go_wp2
  go_loopw [6] (fun i wr => ∃ k : Nat, k ≤ X.length ∧ i = .int .i64 k ∧ wr.ownsRow w1.heap.size 42 3 (.slice (some ⟨g, 0, none⟩) X.length cp) X.length (Ss (eqU W X k)) ∧ Below w.heap.size w wr) (fun i _ => X.length - (intOf i).toNat)
  case atStart => exact ⟨0, Nat.zero_le _, rfl, by simpa [eqU] using hown3, hB3⟩
  case round =>
    obtain ⟨k, hk, rfl, hO, hB⟩ := hrel
    clear hown3 hB3
    by_cases hlt : k < X.length
    · have hel := eqU_len W X k hk
      have hlen := hO.1
      have z1 := hO.frozenAt (k * 3 + 1)
      have c1 := hO.cellAt (k * 3 + 1) (by omega)
      rw [List.getElem?_eq_getElem (by omega)] at c1
      have st1 := hO.stored (k * 3 + 1) (.int .i64 3)
      rw [Ss_set1 3 _ k (by omega)] at st1
      have hO1 := st1.1
      have z2 := hO1.frozenAt (k * 3 + 2)
      have hlen1 := hO1.1
      have c2 := hO1.cellAt (k * 3 + 2) (by omega)
      rw [List.getElem?_eq_getElem (by omega)] at c2
      have st2 := hO1.stored (k * 3 + 2) (.int .i64 W)
      rw [Ss_set2 W _ k (by rw [List.length_set]; omega)] at st2
      have hO2 := st2.1
      rw [List.set_set, List.getElem_set_self, eqU_get W X k hlt (by omega)] at hO2
      dsimp only at hO2
      rw [eqU_step W X k hlt] at hO2
      have hB2 : Below w.heap.size w ((wr.setCell ⟨g, k * 3 + 1, none⟩ (.int .i64 3)).setCell ⟨g, k * 3 + 2, none⟩ (.int .i64 W)) := (hB.setCell (by show w.heap.size ≤ g; omega) _).setCell (by show w.heap.size ≤ g; omega) _
      clear st1 st2 hO1 hB
      have hkn : (k : Int) < (X.length : Int) := by omega
      have hk0 : (0 : Int) ≤ (k : Int) := by omega
      go_wp2
      go_roundw
      case rel => exact ⟨k + 1, by omega, by go_num, hO2, hB2⟩
      case measure => simp [intOf]; omega
    · have hke : k = X.length := by omega
      have he : eqU W X k = X.map fun d => (d.1, (3 : Int), W) := by
        rw [hke]
        simp [eqU]
      rw [he] at hO
      have hrd := (Ss_row (X.map fun d => (d.1, (3 : Int), W))).rd (by rw [List.length_map]; exact hO)
      clear hO he
      go_wp2
      go_ret
      exact ⟨X.map fun d => (d.1, (3 : Int), W), g, cp, W, by simp, by simpa using hX2, by simpa using hX6, eqU_devs hdv hW.1 hW.2, fun d hd => by obtain ⟨e, _, rfl⟩ := List.mem_map.1 hd; rfl, fun d hd => by obtain ⟨e, _, rfl⟩ := List.mem_map.1 hd; rfl, hrd, hB⟩
end Go.Proofs.Ytcejeiakgmamdac.Wk
