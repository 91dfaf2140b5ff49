/- What list and follow of the program come to: the rows of a map in order; one name brought to where another map has it. -/
import Derived.Test.YtmappmboedpgmaqFmI
namespace Go.Proofs.Ytmappmboedpgmaq.Wk
set_option linter.unusedVariables false
open Go.ChangeShapes Go.WideShapes Go.ChangeAt Go.RowKit Go.Maps Go.Sort Go.Shelf

/-- m[k] of such a map -/
theorem wpList_lookupN (w : World) {ops : Array Oper} {rest : List Oper} {o : Oper} {a : Act} {Q : Exit → Act → World → Prop} (hg : o.guard = none) (m x : Operand) (hop : o.op = Op.lookup 51 m x false)
    (b n : Nat) (rs : List Rw) (hm : a.eval m = .map (some b)) (hown : Mp w b n rs) (s : ByteArray) (hs : s.size ≤ 1048576) (hx : a.eval x = .string s) (u : Value) (p : List UInt8) (hf : rfind rs s = some (u, p))
    (hK : wpList Try.prog ops Q rest (a.put o.dst (.agg #[.string s, u])) w) : wpList Try.prog ops Q (o :: rest) a w := by
  refine wpList_plain hg fun K' hK' => ?_
  obtain ⟨v, ps, hrun, hat⟩ := World.ownsMap.lookup (H := Value) hown lawN Try.underlying51 (zeroN w) (zd := .held (.agg #[.string ⟨#[]⟩, .slice none 0 0])) (zp := []) rfl (keyN hs)
  have hv : v = .agg #[.string s, u] := by
    rw [Dof_at, rfind_agR, hf] at hat
    simp [heldR] at hat
    exact hat.1
  subst hv
  unfold Oper.wp
  simp [execOp, hop, hm, hx, hrun, Result.andThen]
  exact hK' _ _ hK
def lookV (rs : List Rw) (s : ByteArray) : Value := match rfind rs s with
  | some x => .agg #[.string s, x.1]
  | none => .agg #[.string ⟨#[]⟩, .slice none 0 0]
/-- x, ok := m[k] -/
theorem wpList_lookokN (w : World) {ops : Array Oper} {rest : List Oper} {o : Oper} {a : Act} {Q : Exit → Act → World → Prop} (hg : o.guard = none) (m x : Operand) (hop : o.op = Op.lookup 51 m x true)
    (b n : Nat) (rs : List Rw) (hm : a.eval m = .map (some b)) (hown : Mp w b n rs) (s : ByteArray) (hs : s.size ≤ 1048576) (hx : a.eval x = .string s)
    (hK : wpList Try.prog ops Q rest (a.put o.dst (.tuple #[lookV rs s, .bool (rfind rs s).isSome])) w) : wpList Try.prog ops Q (o :: rest) a w := by
  refine wpList_lookup_own_ok w hg m x _ hop 9 57 lawN Try.underlying51 heldR (zeroN w) (.held (.agg #[.string ⟨#[]⟩, .slice none 0 0])) [] rfl b n (Dof (agR rs)) hm hown (.string s) (keyL s) hx (keyN hs) ?_
  intro v ps hat
  have hv : v = lookV rs s := by
    rw [Dof_at, rfind_agR] at hat
    unfold lookV
    cases hf : rfind rs s with
    | none => rw [hf] at hat; simp [heldR] at hat; exact hat.1
    | some x => rw [hf] at hat; simp [heldR] at hat; exact hat.1
  have hh : Maps.has (Dof (agR rs)) (keyL s) = (rfind rs s).isSome := by
    rw [Dof_has, rfind_agR]
    cases rfind rs s <;> rfl
  rw [hv, hh]
  exact hK

set_option maxHeartbeats 2000000 in
set_option maxRecDepth 100000 in
theorem implList (b n : Nat) (rs : List Rw) (w : World) (hrise : rise rs) (hl : rs.length ≤ 2097152) (hs : ∀ r ∈ rs, r.1.size ≤ 1048576) (hy : ∀ r ∈ rs, ∃ a n c, r.2.1 = .slice a n c) (hm : Mp w b n rs) :
    Calls Try.prog 34 #[.map (some b)] w fun e w' => ∃ (a' : Option Addr) (c' : Nat), e = .returned (.slice a' rs.length c') ∧ w'.ownsRow w.heap.size 57 2 (.slice a' rs.length c') rs.length (csR rs) ∧ Below w.heap.size w w' := by
  obtain ⟨i0, hi, hz0, hz1, hz2⟩ := info_parts infoNd
  obtain ⟨w1, hrun, hown, hgrow⟩ := run_make_own (P := Try.prog) w w.heap.size 26 57 i0 _ 2 Try.underlying26 hi hz0 hz1 .i64 .i64 rs.length (by rw [hz2]; omega) (by unfold maxLen; omega) (Nat.le_refl _)
  have hbel : Below w.heap.size w w1 := (Below.refl _ _).grown hgrow (Nat.le_refl _) (fun k h => by cases h)
  have hlw : w.heap.size < w1.heap.size := (World.ownsRow.lt hown w.heap.size rfl).2
  have hsz : ((Maps.size (Dof (agR rs)) : Nat) : Int) = (rs.length : Int) := by rw [Dof_size, agR_len]
  have hbw := World.ownsMap.lt hm
  have cN := implNames b n rs w1 hrise hl (mapOnN hm hbel)
  clear hgrow hi hz0 hz1 hz2
  go_enter Try.func34, Try.ntmps34
  go_wp2_with (first
    | (at_len; refine wpList_len_own _ rfl (.tmp 6) 51 rfl 9 57 Try.underlying51 heldR b n (Dof (agR rs)) rfl hm ?_; rw [hsz])
    | (go_at_call 46; refine cN.mono ?_; rintro e w2 ⟨a2, c2, rfl, ho2, hb2⟩))
  clear hrun hsz cN
  have hnv : Apart (.slice (some ⟨w.heap.size, 0, none⟩) 0 rs.length) (.slice a2 rs.length c2) := by
    refine Apart.of (H := w1.heap.size) (fun j e => ?_) (fun j e => (World.ownsRow.lt ho2 j e).1)
    have : w.heap.size = j := by simpa [Value.ownBlock] using e
    omega
  go_loopw [3, 12] (fun q i wr => ∃ k : Nat, k ≤ rs.length ∧ i = .int .i64 k ∧ wr.ownsRow w.heap.size 57 2 q (rs.take k).length (csR (rs.take k)) ∧ Hid (Apart q (.slice a2 rs.length c2)) ∧ Hid (wr.ownsRow w.heap.size 9 1 (.slice a2 rs.length c2) rs.length (rs.map fun r => .string r.1)) ∧ Below w.heap.size w wr) (fun _ i _ => rs.length - (intOf i).toNat)
  case atStart => exact ⟨0, Nat.zero_le _, rfl, ownBelow hown hb2, hnv, ownBase ho2 (by omega), behind hbel hb2⟩
  case round =>
    obtain ⟨k, hk, rfl, hq, HA, HO, hb⟩ := hrel
    obtain ⟨av, cv, rfl⟩ := Nd_shape hq
    have hkl : (rs.take k).length ≤ k := by rw [List.length_take]; omega
    by_cases hlt : k < rs.length
    · have HT : Hid (rs.take (k + 1) = rs.take k ++ [rs[k]]) := List.take_succ_eq_append_getElem hlt
      obtain ⟨ya, ym, yc, hsh⟩ := hy rs[k] (List.getElem_mem hlt)
      have hsn := hs rs[k] (List.getElem_mem hlt)
      have hf : rfind rs rs[k].1 = some rs[k].2 := (rfind_iff hrise).2 (List.getElem_mem hlt)
      have hc : ∃ b9, a2 = some ⟨b9, 0, none⟩ ∧ wr.cell? ⟨b9, k, none⟩ = some (.string rs[k].1) := by
        have := HO.out
        rcases this.2 with ⟨e, h0⟩ | ⟨g, cap, cur, e, -⟩
        · omega
        · simp only [Value.slice.injEq] at e
          obtain ⟨rfl, -, rfl⟩ := e
          refine ⟨g, rfl, ?_⟩
          have h9 := this.cellAt k (by simpa using hlt)
          rw [h9]
          simp [hlt]
      obtain ⟨b9, rfl, hc⟩ := hc
      generalize rs[k] = y at HT hsh hsn hf hc
      obtain ⟨yn, yu, yb⟩ := y
      dsimp only at HT hsh hsn hf hc
      subst hsh
      have hmr := mapOnN hm hb
      have bC := bel1 wr (.cells #[.string yn, .slice ya ym yc] 57)
      have rowC := ownBelow hq bC
      have hbz := hb.size
      generalize rs.take k = o at *
      generalize hT2 : rs.take (k + 1) = o' at *
      go_wp2_with (first
        | (at_lookup; refine wpList_lookupN _ rfl (.tmp 17) (.tmp 18) rfl b n rs rfl hmr yn hsn rfl _ yb hf ?_)
        | (at_builtin; refine wpList_appR _ rfl (.tmp 16) (.tmp 20) rfl w.heap.size (.slice av o.length cv) o rfl rowC ⟨wr.heap.size, 0, none⟩ 1 (yn, .slice ya ym yc, yb) rfl two_at ⟨_, _, _, rfl⟩ (by omega) (by first | omega | (simp; omega)) (wr.heap.size + 1) (World.size_alloc _ _) ?_; intro g2 cap2 w3 hown3 hgrow3 hat3))
      have hB3 := (behind hb bC).grown hgrow3 (by simp; omega) (fun j e => (World.ownsRow.lt hq j e).1)
      have hO3 := World.ownsRow.kept (ownBelow HO.out bC) hgrow3 (Apart.symm HA.out)
      have hA3 : Apart (.slice (some ⟨g2, 0, none⟩) (o.length + 1) cap2) (.slice (some ⟨b9, 0, none⟩) rs.length c2) := by
        rcases hat3 with e | e
        · have h8 := HA.out
          unfold Apart at h8 ⊢
          rw [show (Value.slice (some ⟨g2, 0, none⟩) (o.length + 1) cap2).ownBlock = (Value.slice av o.length cv).ownBlock from e.symm]
          exact h8
        · refine .inr (fun e' => ?_)
          have h8 := (World.ownsRow.lt HO.out b9 rfl).2
          have : g2 = b9 := by simpa [Value.ownBlock] using e'
          omega
      have e2 := HT.out
      subst e2
      go_roundw
      case rel => exact ⟨k + 1, by omega, by go_num, by rw [hT2, show (o ++ [(yn, Value.slice ya ym yc, yb)]).length = o.length + 1 from by simp]; rw [show (o ++ [(yn, Value.slice ya ym yc, yb)]).length = o.length + 1 from by simp] at hown3; exact hown3, hA3, hO3, hB3⟩
      case measure => simp [intOf]; omega
    · have hkl : k = rs.length := by omega
      subst hkl
      rw [List.take_length] at hq
      simp only [List.take_length]
      go_wp2
      go_ret
      exact ⟨av, cv, rfl, hq, hb⟩

/-- one name of rs1 brought to where rs2 has it -/
def folR (rs1 rs2 : List Rw) (s : ByteArray) : List Rw := match rfind rs2 s with
  | some x => putR rs1 (s, x)
  | none => cutR rs1 s
theorem rise_fol {rs1 : List Rw} (h : rise rs1) (rs2 : List Rw) (s : ByteArray) : rise (folR rs1 rs2 s) := by
  unfold folR
  split
  · exact rise_put h _
  · exact rise_cut h _
set_option maxHeartbeats 2000000 in
set_option maxRecDepth 100000 in
theorem implFollow (b1 n1 b2 n2 : Nat) (rs1 rs2 : List Rw) (s : ByteArray) (w : World) (hn : n1 ≤ 4194304) (hrise : rise rs1) (hs : s.size ≤ 1048576) (hy : ∀ r ∈ rs2, ∃ a n c, r.2.1 = .slice a n c) (hm1 : Mp w b1 n1 rs1) (hm2 : Mp w b2 n2 rs2) :
    Calls Try.prog 41 #[.map (some b1), .map (some b2), .string s] w fun e w' => e = .returned (.tuple #[]) ∧ Mp w' b1 (n1 + 1) (folR rs1 rs2 s) ∧ w.grownBy w' (some b1) := by
  cases hf : rfind rs2 s with
  | none =>
    have hV : lookV rs2 s = .agg #[.string ⟨#[]⟩, .slice none 0 0] := by unfold lookV; rw [hf]
    have hI : (rfind rs2 s).isSome = false := by rw [hf]; rfl
    have hF : folR rs1 rs2 s = cutR rs1 s := by unfold folR; rw [hf]
    have hown := World.ownsMap.alloc hm1 (.cells #[.string ⟨#[]⟩, .slice none 0 0] 57)
    have hg := World.grownBy_alloc w (.cells #[.string ⟨#[]⟩, .slice none 0 0] 57) (some b1)
    rw [hF]
    clear hF hf
    go_enter Try.func41, Try.ntmps41
    go_wp2_with (first
      | (at_lookup; refine wpList_lookokN _ rfl (.tmp 9) (.tmp 10) rfl b2 n2 rs2 rfl hm2 s hs rfl ?_; rw [hV, hI])
      | (at_delete; refine wpList_delete_own _ rfl (.tmp 16) (.tmp 17) 51 9 rfl 57 lawN Try.underlying51 heldR b1 n1 (Dof (agR rs1)) (by rfl) hown (.string s) (keyL s) (by rfl) (keyN hs) ?_; intro w1 hown1 hturn1))
    rw [← Dof_del, ← agR_cut] at hown1
    exact bodyPost_ret (v := .tuple #[]) (by simp [results, Try.results41, go_sem]) rfl ⟨rfl, World.ownsMap.mono hown1 (Nat.le_succ _), hg.trans hturn1.grown⟩
  | some x =>
    obtain ⟨u, p⟩ := x
    have hmem := rfind_some hf
    obtain ⟨ya, ym, yc, hsh⟩ := hy _ hmem
    dsimp only at hsh
    subst hsh
    have hV : lookV rs2 s = .agg #[.string s, .slice ya ym yc] := by unfold lookV; rw [hf]
    have hI : (rfind rs2 s).isSome = true := by rw [hf]; rfl
    have hF : folR rs1 rs2 s = putR rs1 (s, .slice ya ym yc, p) := by unfold folR; rw [hf]
    have hown := World.ownsMap.alloc hm1 (.cells #[.string s, .slice ya ym yc] 57)
    have hg := World.grownBy_alloc w (.cells #[.string s, .slice ya ym yc] 57) (some b1)
    rw [hF]
    clear hF hf hmem
    go_enter Try.func41, Try.ntmps41
    go_wp2_with (first
      | (at_lookup; refine wpList_lookokN _ rfl (.tmp 9) (.tmp 10) rfl b2 n2 rs2 rfl hm2 s hs rfl ?_; rw [hV, hI])
      | (at_mapUpdate; refine wpList_mapUpdate_own _ rfl _ _ _ 51 rfl 9 57 lawN Try.underlying51 heldR b1 n1 (Dof (agR rs1)) (by rfl) hown (by unfold maxLen; omega) (.string s) (.agg #[.string s, .slice ya ym yc]) (keyL s) (by rfl) (by rfl) (keyN hs) (.held (.agg #[.string s, .slice ya ym yc])) [] rfl ?_; intro w1 hown1 hgrow1))
    rw [← Dof_put (rise_agR.2 hrise) (s, .agg #[.string s, .slice ya ym yc]), ← agR_put rs1 (s, .slice ya ym yc, p)] at hown1
    exact bodyPost_end (v := .tuple #[]) (by simp [results, Try.results41, go_sem]) rfl ⟨rfl, hown1, hg.trans hgrow1⟩
end Go.Proofs.Ytmappmboedpgmaq.Wk
