/- What lightest of the program comes to. -/
import Derived.Test.YtcejeiakgmamdacLgI
import Derived.Test.YtcejeiakgmamdacLtM
import Derived.Test.YtcejeiakgmamdacOpM
namespace Go.Proofs.Ytcejeiakgmamdac.Wk
set_option linter.unusedVariables false
open Go.ChangeShapes Go.WideShapes Go.ChangeAt Go.RowKit

theorem map_take2 {L : List (Nat × Sm.St)} {k : Nat} (hk : k < L.length) (ps : List (List Int)) : Rg.lfold ps ((L.take (k + 1)).map (·.2)) = Rg.lstep ps (Rg.lfold ps ((L.take k).map (·.2))) L[k].2 := by
  have h := Rg.lfold_step (ps := ps) (L := L.map (·.2)) (k := k) (by simpa using hk)
  rw [List.getElem_map] at h
  rw [List.map_take, List.map_take]
  exact h
/-- the best so far -/
def LtAt (ps : List (List Int)) (b : Nat) (L : List (Nat × Sm.St)) (k : Nat) (r : Option (Nat × Sm.St)) : Prop := Rg.lfold ps ((L.take k).map (·.2)) = r.map (·.2) ∧ (∀ x, r = some x → x ∈ L)

set_option maxHeartbeats 2000000 in
set_option maxRecDepth 100000 in
theorem lightestI (reps : Int) (a c : Option Addr) (ca cc : Nat) (ps : List (List Int)) (b : Nat) (L : List (Nat × Sm.St)) (w : World) (hps : ps.length ≤ 1048576) (ht : tot ps ≤ 1048576) (hL : L.length ≤ 1048576) (hr : RdP w a ps) (hx : RdPt w c b L) (hd : Led w b L)
    (hw : ∀ x ∈ L, 1 ≤ x.2.2.2 ∧ x.2.2.2 ≤ 1000) :
    Calls Try.prog 50 #[.agg #[.int .i64 reps, .slice a ps.length ca], .slice c L.length cc] w fun e w' =>
      ∃ r : Option (Nat × Sm.St), e = .returned (.pointer (r.map fun x => ⟨b, x.1, none⟩)) ∧ Rg.lfold ps (L.map (·.2)) = r.map (·.2) ∧ (∀ x, r = some x → x ∈ L) ∧ Below w.heap.size w w' := by
  have s0 := slot2New w (.int .i64 reps) (.slice a ps.length ca) 29
  have hB0 := bel1 w (.cells #[.int .i64 reps, .slice a ps.length ca] 29)
  have hr0 := hr.below hB0
  have hx0 := hx.below hB0
  have hd0 := hd.below hB0
  have HW : Hid (∀ x ∈ L, 1 ≤ x.2.2.2 ∧ x.2.2.2 ≤ 1000) := hw
  clear hr hx hd hw
  go_enter Try.func50, Try.ntmps50
  go_wp2
  generalize w.alloc (.cells #[.int .i64 reps, .slice a ps.length ca] 29) = w0 at s0 hB0 hr0 hx0 hd0 ⊢
  go_loopw [5, 10] (fun v i wr => ∃ (k : Nat) (r : Option (Nat × Sm.St)), k ≤ L.length ∧ i = .int .i64 k ∧ v = .pointer (r.map fun x => ⟨b, x.1, none⟩) ∧ Hid (LtAt ps b L k r) ∧ Below w0.heap.size w0 wr) (fun _ i _ => L.length - (intOf i).toNat)
  case atStart => exact ⟨0, none, Nat.zero_le _, rfl, rfl, ⟨rfl, fun x h => by cases h⟩, Below.refl _ _⟩
  case round =>
    obtain ⟨k, r, hk, rfl, rfl, HA, hb⟩ := hrel
    by_cases hlt : k < L.length
    · have HS : Hid (Rg.lfold ps ((L.take (k + 1)).map (·.2)) = Rg.lstep ps (Rg.lfold ps ((L.take k).map (·.2))) L[k].2) := map_take2 hlt ps
      have hm : Hid (L[k] ∈ L) := List.getElem_mem hlt
      obtain ⟨g, off, rfl, hc⟩ := (hx0.below hb) k hlt
      have hdk := (hd0.below hb) L[k] hm.out
      have hwk := HW.out L[k] hm.out
      generalize L[k] = y at HS hm hc hdk hwk
      obtain ⟨o, d⟩ := y
      dsimp only at HS hc hdk hwk
      cases r with
      | none =>
        have HA' : Hid (LtAt ps b L (k + 1) (some (o, d))) := by
          refine ⟨?_, fun x h => by cases h; exact hm.out⟩
          rw [HS.out, HA.out.1]
          rfl
        clear HA HS hm hdk hwk
        simp only [Option.map_none]
        go_wp2
        go_roundw
        case rel => exact ⟨k + 1, some (o, d), by omega, by go_num, rfl, HA', hb⟩
        case measure => simp [intOf]; omega
      | some x =>
        obtain ⟨o', d'⟩ := x
        have hm' : Hid ((o', d') ∈ L) := HA.out.2 _ rfl
        have hdx := (hd0.below hb) (o', d') hm'.out
        have hwx := HW.out (o', d') hm'.out
        dsimp only at hdx hwx
        have e9 : Rg.lfold ps ((L.take (k + 1)).map (·.2)) = if ((Rg.load ps d.1 : Int) + 1) * d'.2.2 < ((Rg.load ps d'.1 : Int) + 1) * d.2.2 then some d else some d' := by
          rw [HS.out, HA.out.1]
          rfl
        obtain ⟨⟨g0, g1⟩, -⟩ := s0.below hb
        have cL := lighterI reps a ca ps b o o' d d' wr hps ht (hr0.below hb) hdk hdx hwk hwx
        obtain ⟨B, hB⟩ : ∃ B, decide (((Rg.load ps d.1 : Int) + 1) * d'.2.2 < ((Rg.load ps d'.1 : Int) + 1) * d.2.2) = B := ⟨_, rfl⟩
        rw [hB] at cL
        simp only [Option.map_some]
        cases B with
        | true =>
          rw [if_pos (of_decide_eq_true hB)] at e9
          have HA' : Hid (LtAt ps b L (k + 1) (some (o, d))) := ⟨e9, fun x h => by cases h; exact hm.out⟩
          clear HA HS hm hm' hdk hwk hdx hwx e9 hB
          go_wp2_with fail
          refine cL.mono ?_
          rintro e w2 ⟨rfl, hb2⟩
          go_wp2
          go_roundw
          case rel => exact ⟨k + 1, some (o, d), by omega, by go_num, rfl, HA', behind hb hb2⟩
          case measure => simp [intOf]; omega
        | false =>
          rw [if_neg (of_decide_eq_false hB)] at e9
          have HA' : Hid (LtAt ps b L (k + 1) (some (o', d'))) := ⟨e9, fun x h => by cases h; exact hm'.out⟩
          clear HA HS hm hm' hdk hwk hdx hwx e9 hB
          go_wp2_with fail
          refine cL.mono ?_
          rintro e w2 ⟨rfl, hb2⟩
          go_wp2
          go_roundw
          case rel => exact ⟨k + 1, some (o', d'), by omega, by go_num, rfl, HA', behind hb hb2⟩
          case measure => simp [intOf]; omega
    · have hA := HA.out
      have e9 : L.take k = L := List.take_of_length_le (by omega)
      have HB : Hid (Rg.lfold ps (L.map (·.2)) = r.map (·.2) ∧ (∀ x, r = some x → x ∈ L)) := by
        have := HA.out
        unfold LtAt at this
        rw [e9] at this
        exact this
      clear HA hA e9
      go_wp2
      go_ret
      exact ⟨r, rfl, HB.out.1, fun _ _ _ _ h => HB.out.2 _ h, behind hB0 hb⟩
end Go.Proofs.Ytcejeiakgmamdac.Wk
