/- What openDevs of the program comes to. -/
import Derived.Test.YtcejeiakgmamdacOtI
namespace Go.Proofs.Ytcejeiakgmamdac.Wk
set_option linter.unusedVariables false
open Go.ChangeShapes Go.WideShapes Go.ChangeAt Go.RowKit Go.Maps

set_option maxHeartbeats 4000000 in
set_option maxRecDepth 100000 in
theorem openI (b c : Option Addr) (cb cc : Nat) (p : List Int) (l : List Sm.St) (w : World) (hp : p.length ≤ 1048576) (hl0 : 1 ≤ l.length) (hl : l.length ≤ 1048576) (hrp : RdZ w b p) (hrl : RdS w c l) (hwf : ∀ d ∈ l, (Lit.int .i64 d.2.1).wf = true) :
    Calls Try.prog 51 #[.agg #[.slice b p.length cb], .slice c l.length cc] w fun e w' => ∃ (bl : Nat) (L : List (Nat × Sm.St)) (a' : Option Addr) (cp : Nat), e = .returned (.slice a' L.length cp) ∧
      w'.ownsRow w.heap.size 78 1 (.slice a' L.length cp) L.length (Pv bl L) ∧ L.map (·.2) = Rg.openL p (Rg.zns l p) l ∧ Led w bl L ∧ L.length ≤ l.length ∧ Below w.heap.size w w' := by
  have s0 := slot1New w (.slice b p.length cb) 36
  have hB0 := bel1 w (.cells #[.slice b p.length cb] 36)
  have cO := fun (w' : World) h1 h2 => otherI b c cb cc p l w' hp hl0 hl h1 h2 w hrl hwf
  generalize Rg.zns l p = Z at cO ⊢
  go_enter Try.func51, Try.ntmps51
  go_wp2_with fail
  refine (cO _ (hrp.below hB0) (hrl.below hB0)).mono ?_
  rintro e w1 ⟨bl, A, O, au, av, cu, cv, rfl, hu, hv, eA, eO, hLA, hLO, hA1, hO1, hb1⟩
  have hB1 := behind hB0 hb1
  have hs := hB0.size
  have hlA : (Rg.freshL p Z l).length = A.length := by rw [← eA]; simp
  have HA' : Hid (A.length = 0 → O.map (·.2) = Rg.openL p Z l) := fun h => by unfold Rg.openL; rw [if_pos (by omega)]; exact eO
  have HO' : Hid (¬ A.length = 0 → A.map (·.2) = Rg.openL p Z l) := fun h => by unfold Rg.openL; rw [if_neg (by omega)]; exact eA
  have hu' := hu.mono hs
  have hv' := hv.mono hs
  clear eA eO hlA hu hv s0 cO
  by_cases h0 : A.length = 0
  · have h1 := HA'.out h0
    clear HA' HO'
    go_wp2
    go_ret
    exact ⟨bl, O, av, cv, rfl, hv', h1, hLO, by omega, hB1⟩
  · have h1 := HO'.out h0
    clear HA' HO'
    go_wp2
    go_ret
    exact ⟨bl, A, au, cu, rfl, hu', h1, hLA, by omega, hB1⟩
end Go.Proofs.Ytcejeiakgmamdac.Wk
