/- What l5Zones and SpreadOf of the specification come to. -/
import Derived.Test.YtcejeiakgmamdacZnS
import Derived.Test.YtcejeiakgmamdacAtS
import Derived.Test.YtcejeiakgmamdacRgB
import Derived.Test.YtcejeiakgmamdacRgM
namespace Go.Proofs.Ytcejeiakgmamdac.Wk
set_option linter.unusedVariables false
open Go.ChangeShapes Go.WideShapes Go.ChangeAt Go.RowKit

theorem grownOwn {w w1 w2 : World} {base e n : Nat} {v : Value} {xs : List Value} (hb : Below base w w1) (h : w1.ownsRow base e 1 v n xs) (hg : w1.grownBy w2 v.ownBlock) (hs : base ≤ w1.heap.size) : Below base w w2 :=
  hb.grown hg hs (fun k e => (World.ownsRow.lt h k e).1)
theorem zadd_none {l : List Sm.St} {out : List Int} {id : Int} (h : Dv.at_ l id = none) : Rg.zadd l out id = out := by unfold Rg.zadd; rw [h]
theorem zadd_old {l : List Sm.St} {out : List Int} {id : Int} {d : Sm.St} (h : Dv.at_ l id = some d) (hm : d.2.1 ∈ out) : Rg.zadd l out id = out := by unfold Rg.zadd; rw [h]; exact if_pos hm
theorem zadd_new {l : List Sm.St} {out : List Int} {id : Int} {d : Sm.St} (h : Dv.at_ l id = some d) (hm : ¬ d.2.1 ∈ out) : Rg.zadd l out id = out ++ [d.2.1] := by unfold Rg.zadd; rw [h]; exact if_neg hm

set_option maxHeartbeats 2000000 in
set_option maxRecDepth 100000 in
theorem specZns (a b : Option Addr) (ca cb : Nat) (ids : List Int) (l : List Sm.St) (w : World) (hi : ids.length ≤ 1048576) (hl : l.length ≤ 1048576) (hr : RdZ w a ids) (hs : RdS w b l) :
    Calls Try.prog 52 #[.slice a ids.length ca, .slice b l.length cb] w fun e w' => ∃ (a' : Option Addr) (cp : Nat), e = .returned (.slice a' (Rg.zns l ids).length cp) ∧
      w'.ownsRow w.heap.size 3 1 (.slice a' (Rg.zns l ids).length cp) (Rg.zns l ids).length (Zv (Rg.zns l ids)) ∧ Below w.heap.size w w' := by
  obtain ⟨G, hG⟩ : ∃ G, Rg.zns l ids = G := ⟨_, rfl⟩
  have HG : Hid (Rg.zns l ids = G) := hG
  rw [hG]
  clear hG
  obtain ⟨i0, hif, hz0, hz1, hz2⟩ := info_parts infoZ
  have hown0 : (w.alloc (.cells #[] 3)).ownsRow w.heap.size 3 1 (.slice (some ⟨w.heap.size, 0, none⟩) 0 0) 0 [] := World.ownsRow_made w #[] 0 (Nat.le_refl _) (Nat.zero_le _) rfl
  have hB0 := bel1 w (.cells #[] 3)
  go_enter Try.func52, Try.ntmps52
  go_wp2
  go_loopw [5, 6] (fun v i wr => ∃ (k : Nat) (Z : List Int), k ≤ ids.length ∧ i = .int .i64 k ∧ Hid (Rg.zns l (ids.take k) = Z) ∧ Z.length ≤ k ∧ wr.ownsRow w.heap.size 3 1 v Z.length (Zv Z) ∧ Below w.heap.size w wr) (fun _ i _ => ids.length - (intOf i).toNat)
  case atStart => exact ⟨0, [], Nat.zero_le _, rfl, rfl, Nat.zero_le _, hown0, hB0⟩
  case round =>
    obtain ⟨k, Z, hk, rfl, HZ, hZk, hown, hb⟩ := hrel
    clear hown0 hB0
    by_cases hlt : k < ids.length
    · have HS : Hid (Rg.zns l (ids.take (k + 1)) = Rg.zadd l Z ids[k]) := by
        show Rg.zns l (ids.take (k + 1)) = Rg.zadd l Z ids[k]
        rw [Rg.zns_step hlt l, HZ.out]
      obtain ⟨b1, o1, rfl, hc⟩ := (hr.below hb) k hlt
      generalize ids[k] = x at HS hc
      obtain ⟨aZ, cZ, rfl⟩ := Zv_shape hown
      have cA := specAt b cb l x wr hl (hs.below hb)
      cases hd : Dv.at_ l x with
      | none =>
        rw [hd] at cA
        have e9 := HS.out
        rw [zadd_none hd] at e9
        have HZ' : Hid (Rg.zns l (ids.take (k + 1)) = Z) := e9
        clear HS e9 hd
        dsimp only [dvAtV] at cA
        go_wp2_with fail
        refine cA.mono ?_
        rintro e w2 ⟨rfl, hb2⟩
        have ho2 := ownOn (ownOn hown hb2) (bel1 w2 (.cells #[.int .i64 0, .int .i64 0, .int .i64 0] 42))
        have hB2 := behind (behind hb hb2) (bel1 w2 (.cells #[.int .i64 0, .int .i64 0, .int .i64 0] 42))
        clear hown hc
        go_wp2
        go_roundw
        case rel => exact ⟨k + 1, Z, by omega, by go_num, HZ', by omega, ho2, hB2⟩
        case measure => simp [intOf]; omega
      | some d =>
        rw [hd] at cA
        obtain ⟨i, z, n⟩ := d
        dsimp only [dvAtV] at cA
        have cH := fun (w' : World) (h : RdZ w' aZ Z) => specHas aZ cZ Z z w' (by omega) h
        by_cases hm : z ∈ Z
        · have e9 := HS.out
          rw [zadd_old hd hm] at e9
          have HZ' : Hid (Rg.zns l (ids.take (k + 1)) = Z) := e9
          have hdt : decide (z ∈ Z) = true := decide_eq_true hm
          rw [hdt] at cH
          clear HS e9 hd hdt hm
          go_wp2_with fail
          refine cA.mono ?_
          rintro e w2 ⟨rfl, hb2⟩
          have x2 := boxNew w2 i z n 42
          obtain ⟨q0, q1, q2⟩ := id x2
          have ho2 := ownOn (ownOn hown hb2) (bel1 w2 (.cells #[.int .i64 i, .int .i64 z, .int .i64 n] 42))
          have hB2 := behind (behind hb hb2) (bel1 w2 (.cells #[.int .i64 i, .int .i64 z, .int .i64 n] 42))
          clear hown hc
          go_wp2_with fail
          refine (cH _ (Zv_rd ho2)).mono ?_
          rintro e _ ⟨rfl, rfl⟩
          go_wp2
          go_roundw
          case rel => exact ⟨k + 1, Z, by omega, by go_num, HZ', by omega, ho2, hB2⟩
          case measure => simp [intOf]; omega
        · have e9 := HS.out
          rw [zadd_new hd hm] at e9
          have HZ' : Hid (Rg.zns l (ids.take (k + 1)) = Z ++ [z]) := e9
          have hdt : decide (z ∈ Z) = false := decide_eq_false hm
          rw [hdt] at cH
          clear HS e9 hd hdt hm
          go_wp2_with fail
          refine cA.mono ?_
          rintro e w2 ⟨rfl, hb2⟩
          have x2 := boxNew w2 i z n 42
          obtain ⟨q0, q1, q2⟩ := id x2
          have ho2 := ownOn (ownOn hown hb2) (bel1 w2 (.cells #[.int .i64 i, .int .i64 z, .int .i64 n] 42))
          have hB2 := behind (behind hb hb2) (bel1 w2 (.cells #[.int .i64 i, .int .i64 z, .int .i64 n] 42))
          have hs2 := hB2.size
          clear hown hc
          go_wp2_with fail
          refine (cH _ (Zv_rd ho2)).mono ?_
          rintro e _ ⟨rfl, rfl⟩
          generalize w2.alloc (.cells #[.int .i64 i, .int .i64 z, .int .i64 n] 42) = w3 at *
          have ho3 := ownOn ho2 (bel1 w3 (.cells #[.int .i64 z] 3))
          have hB3 := behind hB2 (bel1 w3 (.cells #[.int .i64 z] 3))
          go_wp2_with (at_builtin; refine wpList_append_own _ rfl (.tmp 33) (.tmp 36) 32 rfl w.heap.size 3 i0 _ 1 8 Try.underlying32 hif hz0 hz1 hz2 rfl (by decide) _ _ _ rfl ho3 ⟨_, 0, none⟩ 1 1 [.int .i64 z] rfl rfl oneZ_at oneZ_one (by unfold maxLen; omega) (by omega) (by simp; omega) ?_; intro v4 w4 hown4 hgrow4 hnil4)
          have hB4 := grownOwn hB3 ho3 hgrow4 (by simp; omega)
          have ho4 : w4.ownsRow w.heap.size 3 1 v4 (Z ++ [z]).length (Zv (Z ++ [z])) := by
            rw [Zv_snoc, List.length_append]; exact hown4
          clear hown4 hgrow4 hnil4 ho3 hB3
          go_wp2
          go_roundw
          case rel => exact ⟨k + 1, Z ++ [z], by omega, by go_num, HZ', by simp; omega, ho4, hB4⟩
          case measure => simp [intOf]; omega
    · have e9 : G = Z := by
        have := HZ.out
        rw [List.take_of_length_le (by omega)] at this
        exact HG.out.symm.trans this
      subst e9
      obtain ⟨aZ, cZ, rfl⟩ := Zv_shape hown
      clear HZ HG
      go_wp2
      go_ret
      exact ⟨aZ, cZ, rfl, hown, hb⟩

end Go.Proofs.Ytcejeiakgmamdac.Wk
