/- FallDisk of the program in the specification's words. -/
import Derived.Test.YtmappmboedpgmaqFcM
namespace Go.Proofs.Ytmappmboedpgmaq.Wk
set_option linter.unusedVariables false
open Go.ChangeShapes Go.WideShapes Go.ChangeAt Go.RowKit

theorem own_nil {w : World} {base e size n c m : Nat} {a : Option Addr} {xs : List Value} (h : w.ownsRow base e size (.slice a n c) m xs) (ha : a = none) : c = 0 := by
  subst ha
  rcases h.2 with ⟨e0, -⟩ | ⟨g, cap, cur, e0, -⟩
  · cases e0; rfl
  · cases e0
theorem names_rows (ra rb : List Rw) : nmsL (nds ra) (nds rb) = mapN (fun _ _ => []) (putAll (ra ++ rb)) := by
  unfold nmsL
  rw [← putAll_map]
  congr 1
  simp [nmE, nds, mapN]
  rfl
theorem implFall' (a1 a2 ak : Option Addr) (c1 c2 ck : Nat) (l1 l2 : List Nd) (keep : List Bool) (w : World) (z1 : NdZ l1) (z2 : NdZ l2) (hkp : keep.length ≤ 1048576) (r1 : RdNd w a1 l1) (r2 : RdNd w a2 l2)
    (h3 : RdK w ak keep ∧ (a1 = none → c1 = 0) ∧ (a2 = none → c2 = 0)) :
    Calls Try.prog 18 #[.agg #[.slice a1 l1.length c1, .slice a2 l2.length c2], .slice ak keep.length ck] w (DkAns1 w (fallS l1 l2 keep).1 (fallS l1 l2 keep).2) := by
  obtain ⟨ra, ea, hRa, hYa⟩ := rdR_ex r1
  obtain ⟨rb, eb, hRb, hYb⟩ := rdR_ex r2
  refine implFall a1 a2 ak c1 c2 ck l1 l2 ra rb keep w z1 z2 hkp ea eb hRa hYa hRb hYb h3.2.1 h3.2.2 h3.1 (fallS l1 l2 keep) ?_
  unfold fallS
  by_cases hA : (listOk l1 && listOk l2) = true
  · rw [if_pos hA, if_pos hA]
    have hK1 : listOk l1 = true := by simp at hA; exact hA.1
    have hK2 : listOk l2 = true := by simp at hA; exact hA.2
    have hria : rise ra := rise_rows ea hK1
    have hrib : rise rb := rise_rows eb hK2
    rw [crash_same hria hrib keep (nmsL l1 l2) (by rw [← ea, ← eb]; exact names_rows ra rb)]
    have hN : nds (fallF ra rb keep (nmsL l1 l2) (nmsL l1 l2).length) = fallF l1 l2 keep (nmsL l1 l2) (nmsL l1 l2).length := by
      have := fallF_map (fun _ (x : Value × List UInt8) => x.2) ra rb keep (nmsL l1 l2) (nmsL l1 l2).length (Nat.le_refl _)
      rw [show mapN (fun _ (x : Value × List UInt8) => x.2) ra = l1 from ea, show mapN (fun _ (x : Value × List UInt8) => x.2) rb = l2 from eb] at this
      exact this.symm
    have hl : (fallF ra rb keep (nmsL l1 l2) (nmsL l1 l2).length).length = (fallF l1 l2 keep (nmsL l1 l2) (nmsL l1 l2).length).length := by rw [← hN, nds_len]
    rw [hN, hl]
    by_cases h : 60 < (fallF l1 l2 keep (nmsL l1 l2) (nmsL l1 l2).length).length
    · rw [if_pos h, if_neg (by simp; omega)]
    · rw [if_neg h, if_pos (by simp; omega)]
  · rw [if_neg hA, if_neg hA]
end Go.Proofs.Ytmappmboedpgmaq.Wk
