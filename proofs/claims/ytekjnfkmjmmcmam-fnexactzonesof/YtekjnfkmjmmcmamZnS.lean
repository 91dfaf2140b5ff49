/- What ZonesOf of the specification comes to. -/
import Derived.Test.YtekjnfkmjmmcmamZnM
import Derived.Deep.QuietTactic
import Derived.BigQuiet
import Derived.Laws.OwnMore
namespace Go.Proofs.Ytekjnfkmjmmcmam.Wk
set_option linter.unusedVariables false
open Go.ChangeShapes Go.WideShapes Go.ChangeAt Go.RowKit

set_option maxHeartbeats 1000000 in
set_option maxRecDepth 100000 in
theorem specHas (a : Option Addr) (cap : Nat) (R : List Int) (z : Int) (w : World) (hl : R.length ≤ 1048576) (hr : RdZ w a R) :
    Calls Try.prog 27 #[.slice a R.length cap, .int .i64 z] w fun e w' => e = .returned (.bool (decide (z ∈ R))) ∧ w' = w := by
  obtain ⟨K, hK⟩ : ∃ K, decide (z ∈ R) = K := ⟨_, rfl⟩
  have HK : Hid (decide (z ∈ R) = K) := hK
  rw [hK]
  clear hK
  go_enter Try.func27, Try.ntmps27
  go_wp2
  go_loop [5] (fun i => ∃ k : Nat, k ≤ R.length ∧ i = .int .i64 k ∧ Hid (z ∉ R.take k)) (fun i => R.length - (intOf i).toNat)
  case atStart => exact ⟨0, Nat.zero_le _, rfl, by show z ∉ R.take 0; simp⟩
  case round =>
    obtain ⟨k, hk, rfl, HN⟩ := hrel
    by_cases hlt : k < R.length
    · obtain ⟨b, off, rfl, hc⟩ := hr k hlt
      have HY : Hid (R[k] = z → K = true) := fun e => by rw [← HK.out, ← e]; simp
      have HM : Hid (¬ R[k] = z → z ∉ R.take (k + 1)) := fun e => by
        rw [List.take_succ_eq_append_getElem hlt, List.mem_append, List.mem_singleton]
        rintro (h | h)
        · exact HN.out h
        · exact e h.symm
      generalize R[k] = x at hc HY HM
      clear HN HK hr
      by_cases e : x = z
      · have eK := HY.out e
        subst eK
        subst e
        clear HY HM
        go_wp2
        go_ret
        exact ⟨rfl, rfl⟩
      · have HM' : Hid (z ∉ R.take (k + 1)) := HM.out e
        clear HY HM
        go_wp2
        go_round
        case rel => exact ⟨k + 1, by omega, by go_num, HM'⟩
        case measure => simp [intOf]; omega
    · have eK : K = false := by
        rw [← HK.out]
        have := HN.out
        rw [List.take_of_length_le (by omega)] at this
        simpa using this
      subst eK
      clear HN HK hr
      go_wp2
      go_ret
      exact ⟨rfl, rfl⟩

set_option maxHeartbeats 2000000 in
set_option maxRecDepth 100000 in
theorem specZones (a : Option Addr) (cap : Nat) (l : List Sm.St) (w : World) (hl : l.length ≤ 1048576) (hr : RdS w a l) :
    Calls Try.prog 17 #[.slice a l.length cap] w fun e w' => ∃ (R : List Int) (a' : Option Addr) (cp : Nat), e = .returned (.slice a' R.length cp) ∧ Dv.Zs l R ∧ w'.ownsRow w.heap.size 3 1 (.slice a' R.length cp) R.length (Zv R) ∧ Below w.heap.size w w' := by
  obtain ⟨i0, hi, hz0, hz1, hz2⟩ := info_parts infoZ
  have hown1 : (w.alloc (.cells #[] 3)).ownsRow w.heap.size 3 1 (.slice (some ⟨w.heap.size, 0, none⟩) 0 0) 0 [] := World.ownsRow_made w #[] 0 (Nat.le_refl _) (Nat.zero_le _) rfl
  go_enter Try.func17, Try.ntmps17
  go_wp2
  go_loopw [3, 4] (fun v i wr => ∃ (k : Nat) (R : List Int), k ≤ l.length ∧ i = .int .i64 k ∧ Dv.Zs (l.take k) R ∧ wr.ownsRow w.heap.size 3 1 v R.length (Zv R) ∧ Below w.heap.size w wr ∧ w.heap.size < wr.heap.size) (fun _ i _ => l.length - (intOf i).toNat)
  case atStart => exact ⟨0, [], Nat.zero_le _, rfl, Dv.Zs_nil, hown1, bel1 _ _, by simp⟩
  case round =>
    obtain ⟨k, R, hk, rfl, HZ, hown, hb, hsz⟩ := hrel
    clear hown1
    obtain ⟨av, cv, hv⟩ := Zv_shape hown
    subst hv
    by_cases hlt : k < l.length
    · obtain ⟨b, off, rfl, -, p1, -⟩ := (hr.below hb) k hlt
      have hRl : R.length ≤ k := by have := HZ.2.2; simp only [List.length_take] at this; omega
      have HS : Hid (l[k].2.1 ∈ R → Dv.Zs (l.take (k + 1)) R) := fun h => HZ.skip hlt h
      have HP : Hid (∀ j, (∀ x ∈ R.take j, x < l[k].2.1) → (∀ x ∈ R.drop j, l[k].2.1 < x) → Dv.Zs (l.take (k + 1)) (R.take j ++ l[k].2.1 :: R.drop j)) := fun j h1 h2 => HZ.put hlt h1 h2
      generalize l[k].2.1 = z at p1 HS HP
      have cH := specHas av cv R z wr (by omega) (Zv_rd hown)
      by_cases hm : z ∈ R
      · rw [decide_eq_true hm] at cH
        have HT : Hid (Dv.Zs (l.take (k + 1)) R) := HS.out hm
        clear HS HP
        go_wp2_with fail
        refine cH.mono ?_
        rintro e w1 ⟨rfl, rfl⟩
        go_wp2
        go_roundw
        case rel => exact ⟨k + 1, R, by omega, by go_num, HT.out, hown, hb, hsz⟩
        case measure => simp [intOf]; omega
      · rw [decide_eq_false hm] at cH
        have HM : Hid (z ∉ R) := hm
        have HL : Hid (∀ j (hj : j < R.length), R[j] < z → ∀ x ∈ R.take (j + 1), x < z) := fun j hj h => HZ.less hj h
        clear HS hm HZ
        go_wp2_with fail
        refine cH.mono ?_
        rintro e w1 ⟨rfl, rfl⟩
        clear cH
        go_wp2_with (at_builtin; refine wpList_append_own _ rfl (.tmp 24) (.tmp 26) 36 rfl w.heap.size 3 i0 (.int .i64 0) 1 8 Try.underlying36 hi hz0 hz1 hz2 rfl (by decide) _ _ _ rfl (World.ownsRow.alloc hown _) ⟨_, 0, none⟩ 1 1 [.int .i64 z] rfl rfl oneZ_at oneZ_one (by unfold maxLen; omega) (by omega) (by simp; omega) ?_; intro v2 w2 hown2 hgrow2 hnil2)
        have hg2 : w1.grownBy w2 (Value.slice av R.length cv).ownBlock := grownZ (World.grownBy_alloc w1 _ _) hgrow2
        have hlo : ∀ j, (Value.slice av R.length cv).ownBlock = some j → w.heap.size ≤ j := fun j e => (World.ownsRow.lt hown j e).1
        have hb2 : Below w.heap.size w w2 := hb.grown hg2 (by omega) hlo
        have hs2 := hg2.size
        rw [← Zv_snoc, show R ++ [z] = R.take R.length ++ z :: R.drop R.length from by simp] at hown2
        obtain ⟨g, cp, hv2, hbg⟩ := Zv_some hown2
        subst hv2
        clear hown hgrow2 hnil2 hg2 hlo hb hr p1
        go_loopw [6] (fun q wr => ∃ (j : Nat) (x : Int), j ≤ R.length ∧ q = .int .i64 j ∧ Hid (∀ x ∈ R.drop j, z < x) ∧ wr.ownsRow w.heap.size 3 1 (.slice (some ⟨g, 0, none⟩) (R.length + 1) cp) (R.length + 1) (Zv (R.take j ++ x :: R.drop j)) ∧ Below w.heap.size w wr ∧ w.heap.size < wr.heap.size) (fun q _ => (intOf q).toNat)
        case atStart => exact ⟨R.length, z, Nat.le_refl _, rfl, by show ∀ x ∈ R.drop R.length, z < x; simp, hown2, hb2, by omega⟩
        case round =>
          obtain ⟨j, x, hj, rfl, HD, hown, hb, hsz3⟩ := hrel
          clear hown2 hb2 hs2
          have hlx : (Zv (R.take j ++ x :: R.drop j)).length = R.length + 1 := by rw [Zv_len]; simp; omega
          have hfz := hown.frozenAt j
          have hat := hown.cellAt j (by omega)
          rw [List.getElem?_eq_getElem (by omega)] at hat
          have hst := hown.stored j (.int .i64 z)
          rw [Zv_set, Dv.lay hj] at hst
          have hn : (R.take j ++ z :: R.drop j).length = R.length + 1 := by simp; omega
          rcases j with _ | j
          · have HT : Hid (Dv.Zs (l.take (k + 1)) (R.take 0 ++ z :: R.drop 0)) := HP.out 0 (fun x hx => by simp at hx) HD.out
            go_wp2
            go_roundw
            case rel => exact ⟨k + 1, _, by omega, by go_num, HT.out, by rw [hn]; exact hst.1, hb.setCell hbg _, by simpa using hsz3⟩
            case measure => simp [intOf]; omega
          · have hja : j < R.length := by omega
            have hat1 := hown.cellAt j (by omega)
            rw [Zv_get (Dv.ahead hja)] at hat1
            by_cases hgt : z < R[j]
            · have HD' : Hid (∀ x ∈ R.drop j, z < x) := Dv.zmore hja hgt HD.out
              have hst1 := hown.stored (j + 1) (.int .i64 R[j])
              rw [Zv_set, Dv.shift hja] at hst1
              generalize R[j] = y at hat1 hgt hst1
              go_wp2
              go_roundw
              case rel => exact ⟨j, y, by omega, by go_num, HD', hst1.1, hb.setCell hbg _, by simpa using hsz3⟩
              case measure => simp [intOf]
            · have hne : R[j] ≠ z := fun e => HM.out (e ▸ List.getElem_mem hja)
              have HT : Hid (Dv.Zs (l.take (k + 1)) (R.take (j + 1) ++ z :: R.drop (j + 1))) := HP.out (j + 1) (HL.out j hja (by omega)) HD.out
              generalize R[j] = y at hat1 hgt hne
              go_wp2
              go_roundw
              case rel => exact ⟨k + 1, _, by omega, by go_num, HT.out, by rw [hn]; exact hst.1, hb.setCell hbg _, by simpa using hsz3⟩
              case measure => simp [intOf]; omega
    · have hkl : k = l.length := by omega
      rw [hkl, List.take_length] at HZ
      go_wp2
      go_ret
      exact ⟨R, _, _, rfl, HZ, hown, hb⟩
end Go.Proofs.Ytekjnfkmjmmcmam.Wk
