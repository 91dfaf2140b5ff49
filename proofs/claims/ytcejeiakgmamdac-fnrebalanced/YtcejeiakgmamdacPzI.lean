/- What partZones and SpreadOf of the program come to: a map that has the zones of a part, each with how often it came. -/
import Derived.Test.YtcejeiakgmamdacZnM
import Derived.Test.YtcejeiakgmamdacAtI
import Derived.Test.YtcejeiakgmamdacRgB
import Derived.Test.YtcejeiakgmamdacRgM
import Derived.Maps.OwnOps
import Derived.Maps.OwnSet
namespace Go.Proofs.Ytcejeiakgmamdac.Wk
set_option linter.unusedVariables false
open Go.ChangeShapes Go.WideShapes Go.ChangeAt Go.RowKit Go.Maps

theorem lawPz : Keyed Try.prog 3 := int_keyed Try.underlying3
theorem zeroPz (w : World) : (zeroValue 3).run Try.prog w = .ok (.int .i64 0) w := by kernel_rfl
theorem at_mem {l : List Sm.St} {id : Int} {d : Sm.St} (h : Dv.at_ l id = some d) : d ∈ l := List.mem_of_find?_eq_some h
/-- the map D has just the zones Z, each with a number above 0 -/
def ZM (k : Nat) (D : DataW Unit) (Z : List Int) : Prop := Tidy D ∧ Maps.size D = Z.length ∧ (∀ z, Maps.has D (.int .i64 z) = true ↔ z ∈ Z) ∧
  ∀ z, ∃ n : Nat, D.atKey (.int .i64 z) (.lit (.int .i64 0)) = .lit (.int .i64 n) ∧ n ≤ k ∧ (0 < n ↔ z ∈ Z)
theorem ZM.nil : ZM 0 (.map []) [] := ⟨tidy_empty, rfl, fun z => by simp [Maps.has_eq], fun z => ⟨0, rfl, Nat.le_refl _, by simp⟩⟩
theorem ZM.more {k : Nat} {D : DataW Unit} {Z : List Int} (h : ZM k D Z) : ZM (k + 1) D Z :=
  ⟨h.1, h.2.1, h.2.2.1, fun z => let ⟨n, h1, h2, h3⟩ := h.2.2.2 z; ⟨n, h1, by omega, h3⟩⟩
theorem wrapPz {n : Nat} (h : n ≤ 1048576) : wrap64 ((n : Int) + 1) = ((n + 1 : Nat) : Int) := by
  unfold wrap64
  omega
theorem ZM.put {k : Nat} {D : DataW Unit} {Z : List Int} {z c : Int} (h : ZM k D Z) (hk : k ≤ 1048576) (hat : D.atKey (.int .i64 z) (.lit (.int .i64 0)) = .lit (.int .i64 c)) :
    ZM (k + 1) (D.put (.int .i64 z) (.lit (.int .i64 (wrap64 (c + 1))))) (if z ∈ Z then Z else Z ++ [z]) := by
  obtain ⟨ht, hs, hh, hn⟩ := h
  obtain ⟨n, h1, h2, h3⟩ := hn z
  have hc : c = n := by
    have := hat.symm.trans h1
    simpa using this
  subst hc
  rw [wrapPz (by omega)]
  have hm : ∀ y, y ∈ (if z ∈ Z then Z else Z ++ [z]) ↔ y ∈ Z ∨ y = z := by
    intro y
    by_cases e : z ∈ Z
    · rw [if_pos e]
      constructor
      · exact .inl
      · rintro (h | rfl)
        · exact h
        · exact e
    · rw [if_neg e]
      simp
  refine ⟨ht.put (k := .int .i64 z) trivial _, ?_, fun y => ?_, fun y => ?_⟩
  · rw [size_put ht, hs]
    by_cases e : z ∈ Z
    · rw [if_pos ((hh z).2 e), if_pos e]
    · rw [if_neg (fun x => e ((hh z).1 x)), if_neg e]
      simp
  · rw [hm, ← hh]
    by_cases e : y = z
    · subst e
      simp [Maps.has_put_same (k := .int .i64 y) ht.isMap trivial]
    · rw [Maps.has_put_other (by simpa using e)]
      simp [e]
  · by_cases e : y = z
    · subst e
      refine ⟨n + 1, Maps.atKey_put_same (k := .int .i64 y) ht.isMap trivial _ _, by omega, ?_⟩
      rw [hm]
      simp
    · obtain ⟨m, q1, q2, q3⟩ := hn y
      refine ⟨m, ?_, by omega, ?_⟩
      · rw [Maps.atKey_put_other (by simpa using e)]
        exact q1
      · rw [hm, q3]
        simp [e]
theorem ZM.new {k : Nat} {D : DataW Unit} {Z : List Int} {z c : Int} (h : ZM k D Z) (hat : D.atKey (.int .i64 z) (.lit (.int .i64 0)) = .lit (.int .i64 c)) : (c == 0) = !decide (z ∈ Z) := by
  obtain ⟨n, h1, h2, h3⟩ := h.2.2.2 z
  have hc : c = n := by
    have := hat.symm.trans h1
    simpa using this
  subst hc
  by_cases e : z ∈ Z
  · have h9 := h3.2 e
    have h8 : n ≠ 0 := by omega
    simp [e, h8]
  · have : n = 0 := by
      have h8 : ¬ 0 < n := fun x => e (h3.1 x)
      omega
    subst this
    simp [e]

theorem mapOn {R : Value → Option (DataW Unit × List MemPlace)} {w w' : World} {k b n : Nat} {D : DataW Unit} (h : w.ownsMap Try.prog k R b n D) (hb : Below w.heap.size w w') : w'.ownsMap Try.prog k R b n D :=
  h.kept (row := none) ⟨hb.os, hb.tape, hb.output, hb.size, fun k hk _ => hb.block k hk⟩ (by simp)
set_option maxHeartbeats 1000000 in
set_option maxRecDepth 100000 in
theorem implPz (a b : Option Addr) (ca cb : Nat) (p : List Int) (l : List Sm.St) (w : World) (hi : p.length ≤ 1048576) (hl : l.length ≤ 1048576) (hr : RdZ w a p) (hs : RdS w b l) (hwf : ∀ d ∈ l, (Lit.int .i64 d.2.1).wf = true) :
    Calls Try.prog 45 #[.agg #[.slice a p.length ca], .slice b l.length cb] w fun e w' => ∃ D : DataW Unit, e = .returned (.map (some (w.heap.size + 1))) ∧ w'.ownsMap Try.prog 3 (plainElem Try.prog 3) (w.heap.size + 1) p.length D ∧
      ZM p.length D (Rg.zns l p) ∧ Below w.heap.size w w' := by
  have hmm := @run_makeMap Try.prog
  obtain ⟨G, hG⟩ : ∃ G, Rg.zns l p = G := ⟨_, rfl⟩
  have HG : Hid (Rg.zns l p = G) := hG
  rw [hG]
  clear hG
  have hB0 := bel1 w (.cells #[.slice a p.length ca] 36)
  go_enter Try.func45, Try.ntmps45
  go_wp2
  go_loopw [14] (fun i wr => ∃ (k : Nat) (D : DataW Unit) (Z : List Int), k ≤ p.length ∧ i = .int .i64 k ∧ wr.ownsMap Try.prog 3 (plainElem Try.prog 3) (w.heap.size + 1) k D ∧ Hid (ZM k D Z) ∧ Hid (Rg.zns l (p.take k) = Z) ∧ Below w.heap.size w wr) (fun i _ => p.length - (intOf i).toNat)
  case atStart => exact ⟨0, .map [], [], Nat.zero_le _, rfl, by have := World.ownsMap_made (w.alloc (.cells #[.slice a p.length ca] 36)) Try.prog 3 (plainElem (H := Unit) Try.prog 3); simpa using this, ZM.nil, rfl, by first | exact bel2 _ _ _ | exact hB0.alloc (by simp) _⟩
  case round =>
    obtain ⟨k, D, Z, hk, rfl, hown, HM, HZ, hb⟩ := hrel
    clear hmm
    by_cases hlt : k < p.length
    · have HS : Hid (Rg.zns l (p.take (k + 1)) = Rg.zadd l Z p[k]) := by
        show Rg.zns l (p.take (k + 1)) = Rg.zadd l Z p[k]
        rw [Rg.zns_step hlt l, HZ.out]
      obtain ⟨b1, o1, rfl, hc⟩ := (hr.below hb) k hlt
      generalize p[k] = x at HS hc
      have cA := implAt b cb l x wr hl (hs.below hb)
      have HF : Hid (∀ d ∈ l, (Lit.int .i64 d.2.1).wf = true) := hwf
      clear hwf
      cases hd : Dv.at_ l x with
      | none =>
        rw [hd] at cA
        have e9 : Rg.zns l (p.take (k + 1)) = Z := by rw [HS.out]; unfold Rg.zadd; rw [hd]
        have HZ' : Hid (Rg.zns l (p.take (k + 1)) = Z) := e9
        have HM' : Hid (ZM (k + 1) D Z) := HM.out.more
        clear HS e9 hd HM HZ
        dsimp only [dvAtV] at cA
        go_wp2_with fail
        refine cA.mono ?_
        rintro e w2 ⟨rfl, hb2⟩
        have ho2 := ((mapOn hown hb2).alloc (.cells #[.int .i64 0, .int .i64 0, .int .i64 0] 42))
        have hB2 := behind (behind hb hb2) (bel1 w2 (.cells #[.int .i64 0, .int .i64 0, .int .i64 0] 42))
        clear hown hc
        go_wp2
        go_roundw
        case rel => exact ⟨k + 1, D, Z, by omega, by go_num, ho2.mono (by omega), HM', HZ', hB2⟩
        case measure => simp [intOf]; omega
      | some d =>
        have hw := HF.out d (at_mem hd)
        rw [hd] at cA
        obtain ⟨i, z, n⟩ := d
        dsimp only [dvAtV] at cA hw
        have e9 : Rg.zns l (p.take (k + 1)) = if z ∈ Z then Z else Z ++ [z] := by rw [HS.out]; unfold Rg.zadd; rw [hd]
        have HZ' : Hid (Rg.zns l (p.take (k + 1)) = if z ∈ Z then Z else Z ++ [z]) := e9
        have HP : Hid (∀ c, D.atKey (.int .i64 z) (.lit (.int .i64 0)) = .lit (.int .i64 c) → ZM (k + 1) (D.put (.int .i64 z) (.lit (.int .i64 (wrap64 (c + 1))))) (if z ∈ Z then Z else Z ++ [z])) := fun c h => HM.out.put (by omega) h
        have hkey : keyOf Try.prog 3 (.int .i64 z) = some (.int .i64 z) := keyOf_int_mk Try.underlying3 hw
        clear HS e9 hd HM HZ HF
        go_wp2_with fail
        refine cA.mono ?_
        rintro e w2 ⟨rfl, hb2⟩
        have ho2 := ((mapOn hown hb2).alloc (.cells #[.int .i64 i, .int .i64 z, .int .i64 n] 42))
        have hB2 := behind (behind hb hb2) (bel1 w2 (.cells #[.int .i64 i, .int .i64 z, .int .i64 n] 42))
        have x2 := boxNew w2 i z n 42
        obtain ⟨q0, q1, q2⟩ := id x2
        clear hown hc
        go_wp2_with (first
          | (at_lookup; refine wpList_lookup_own_int _ rfl _ _ 71 rfl 3 3 .i64 lawPz Try.underlying71 Try.underlying3 (zeroPz _) (w.heap.size + 1) k _ rfl ho2 _ _ rfl hkey ?_; intro c hat hwc)
          | (at_mapUpdate; refine wpList_mapUpdate_own _ rfl _ _ _ 71 rfl 3 3 lawPz Try.underlying71 _ (w.heap.size + 1) k _ rfl ho2 (by unfold maxLen; omega) _ _ _ rfl rfl hkey _ [] (plainElem_int Try.underlying3 (wrap64_wf _)) ?_; intro w1 hown1 hgrow1))
        go_roundw
        case rel => exact ⟨k + 1, _, _, by omega, by go_num, hown1, HP.out c hat, HZ', hB2.grown hgrow1 hB2.size (fun j hj => by cases hj; exact Nat.le_succ _)⟩
        case measure => simp [intOf]; omega
    · have hkl : k = p.length := by omega
      subst hkl
      have e9 : G = Z := by
        have := HZ.out
        rw [List.take_length] at this
        exact HG.out.symm.trans this
      subst e9
      have HM' := HM.out
      clear HM HZ HG
      go_wp2
      go_ret
      exact ⟨D, rfl, hown, HM', hb⟩

set_option maxHeartbeats 400000 in
set_option maxRecDepth 100000 in
theorem implSpread (a b : Option Addr) (ca cb : Nat) (p : List Int) (l : List Sm.St) (w : World) (hi : p.length ≤ 1048576) (hl : l.length ≤ 1048576) (hr : RdZ w a p) (hs : RdS w b l) (hwf : ∀ d ∈ l, (Lit.int .i64 d.2.1).wf = true) :
    Calls Try.prog 14 #[.agg #[.slice a p.length ca], .slice b l.length cb] w fun e w' => e = .returned (.int .i64 ((Rg.zns l p).length : Int)) ∧ Below w.heap.size w w' := by
  have hB0 := bel1 w (.cells #[.slice a p.length ca] 36)
  go_enter Try.func14, Try.ntmps14
  go_wp2_with fail
  refine (implPz a b ca cb p l _ hi hl (hr.below hB0) (hs.below hB0) hwf).mono ?_
  rintro e w1 ⟨D, rfl, hown, hzm, hb1⟩
  simp only [World.size_alloc] at hown
  have hsz := hzm.2.1
  clear hzm
  go_wp2_with (at_len; refine wpList_len_own _ rfl _ 71 rfl 3 3 Try.underlying71 _ _ _ D rfl hown ?_)
  go_ret
  exact ⟨rfl, behind hB0 hb1⟩
end Go.Proofs.Ytcejeiakgmamdac.Wk
