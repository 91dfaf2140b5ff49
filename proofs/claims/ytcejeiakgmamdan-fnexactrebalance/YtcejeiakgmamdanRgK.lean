/- What the laws' markIntS and heldIntS come to: marks in a row of numbers of its own, and whether they are there. -/
import Derived.Test.YtcejeiakgmamdanBuM
import Derived.Test.YtcejeiakgmamdanRgZ
namespace Go.Proofs.Ytcejeiakgmamdan.Wk
set_option linter.unusedVariables false
open Go.ChangeShapes Go.WideShapes Go.ChangeAt Go.RowKit

/-- the marks k0, k0 + 1, .. -/
def mks (k0 n : Nat) : List Int := (List.range n).map fun i : Nat => (k0 : Int) + (i : Int)
theorem mks_len (k0 n : Nat) : (mks k0 n).length = n := by simp [mks]
theorem mks_get (k0 n j : Nat) (h : j < (mks k0 n).length) : (mks k0 n)[j] = (k0 : Int) + (j : Int) := by simp [mks]
/-- marks in all the lists -/
def mkP : Nat → List (List Int) → List (List Int)
  | _, [] => []
  | k, p :: r => mks k p.length :: mkP (k + p.length) r
theorem mkP_len (k : Nat) (ps : List (List Int)) : (mkP k ps).length = ps.length := by
  induction ps generalizing k with
  | nil => rfl
  | cons p r ih => simp [mkP, ih]
theorem mkP_get (ps : List (List Int)) : ∀ (k j : Nat) (h : j < ps.length), (mkP k ps)[j]? = some (mks (k + tot (ps.take j)) ps[j].length) := by
  induction ps with
  | nil => intro k j h; simp at h
  | cons p r ih =>
    intro k j h
    cases j with
    | zero => simp [mkP, tot]
    | succ j =>
      have h' : j < r.length := by simpa using h
      have := ih (k + p.length) j h'
      simp only [mkP, List.getElem?_cons_succ, List.getElem_cons_succ, List.take_succ_cons]
      rw [this]
      have e : tot (p :: r.take j) = p.length + tot (r.take j) := by simp [tot]
      rw [e, Nat.add_assoc]

set_option maxHeartbeats 1000000 in
set_option maxRecDepth 100000 in
theorem markZ (base : Nat) (a : Option Addr) (cap n k0 : Nat) (xs : List Value) (w : World) (hn : n ≤ 1048576) (hk0 : k0 ≤ 4194304) (ho : w.ownsRow base 3 1 (.slice a n cap) n xs) :
    Calls Try.prog 68 #[.slice a n cap, .int .i64 (k0 : Int)] w fun e w' => e = .returned (.int .i64 ((k0 : Int) + (n : Int))) ∧
      w'.ownsRow base 3 1 (.slice a n cap) n (Zv (mks k0 n)) ∧ w.grownBy w' (Value.slice a n cap).ownBlock := by
  go_enter Try.func68, Try.ntmps68
  go_wp2
  go_loopw [1, 5] (fun q i wr => ∃ (j : Nat) (ys : List Value), j ≤ n ∧ i = .int .i64 j ∧ q = .int .i64 ((k0 : Int) + (j : Int)) ∧ wr.ownsRow base 3 1 (.slice a n cap) n ys ∧ RowZ ys (mks k0 n) j ∧ w.grownBy wr (Value.slice a n cap).ownBlock) (fun _ i _ => n - (intOf i).toNat)
  case atStart => exact ⟨0, xs, Nat.zero_le _, rfl, by simp, ho, fun i h hk => by omega, World.grownBy.refl _ _⟩
  case round =>
    obtain ⟨j, ys, hj, rfl, rfl, hown, hrow, hgr⟩ := hrel
    by_cases hlt : j < n
    · obtain ⟨g, rfl⟩ : ∃ g, a = some ⟨g, 0, none⟩ := by
        rcases hown.2 with ⟨e1, h0⟩ | ⟨g, cap', cur, e1, _⟩
        · omega
        · simp only [Value.slice.injEq] at e1
          exact ⟨g, e1.1⟩
      have hlen := hown.1
      have z0 := hown.frozenAt j
      have c0 := hown.cellAt j (by omega)
      rw [List.getElem?_eq_getElem (by omega)] at c0
      have hst := hown.stored j (.int .i64 ((k0 : Int) + (j : Int)))
      have hrow' := hrow.step (by rw [mks_len]; exact hlt) (mks_get k0 n j (by rw [mks_len]; exact hlt)) (by rw [mks_len]; exact hlen)
      go_wp2
      go_roundw
      case rel => exact ⟨j + 1, _, by omega, by go_num, by go_num, hst.1, hrow', grownZ hgr hst.2⟩
      case measure => simp [intOf]; omega
    · have hjn : j = n := by omega
      have hrow2 : RowZ ys (mks k0 n) (mks k0 n).length := fun i h hi => hrow i h (by rw [mks_len] at h; omega)
      have e := hrow2.all (by rw [mks_len]; exact hown.1)
      rw [e] at hown
      have ej : (k0 : Int) + (j : Int) = (k0 : Int) + (n : Int) := by rw [hjn]
      rw [ej]
      go_wp2
      go_ret
      exact ⟨rfl, hown, hgr⟩

set_option maxHeartbeats 1000000 in
set_option maxRecDepth 100000 in
theorem heldZ (a : Option Addr) (cap n k0 : Nat) (w : World) (hn : n ≤ 1048576) (hk0 : k0 ≤ 4194304) (hr : RdZ w a (mks k0 n)) :
    Calls Try.prog 69 #[.slice a n cap, .int .i64 (k0 : Int)] w fun e w' => e = .returned (.int .i64 ((k0 : Int) + (n : Int))) ∧ w' = w := by
  go_enter Try.func69, Try.ntmps69
  go_wp2
  go_loop [1, 5] (fun q i => ∃ j : Nat, j ≤ n ∧ i = .int .i64 j ∧ q = .int .i64 ((k0 : Int) + (j : Int))) (fun _ i => n - (intOf i).toNat)
  case atStart => exact ⟨0, Nat.zero_le _, rfl, by simp⟩
  case round =>
    obtain ⟨j, hj, rfl, rfl⟩ := hrel
    by_cases hlt : j < n
    · obtain ⟨b, off, rfl, p0⟩ := hr j (by rw [mks_len]; exact hlt)
      rw [mks_get k0 n j (by rw [mks_len]; exact hlt)] at p0
      go_wp2
      go_round
      case rel => exact ⟨j + 1, by omega, by go_num, by go_num⟩
      case measure => simp [intOf]; omega
    · have ej : (k0 : Int) + (j : Int) = (k0 : Int) + (n : Int) := by omega
      rw [ej]
      go_wp2
      go_ret
      exact ⟨rfl, rfl⟩
/-- a list's content turned, in its place -/
theorem OwnE.turn {w w' : World} {base k n : Nat} {ob : Option Nat} {u : Value} {vs : List Value} {ps : List (List Int)} {p' : List Int} (h : OwnE w base ob vs ps n) (hk : k < ps.length) (hkn : k < n) (hu : vs[k]? = some u)
    (hg : w.grownBy w' u.ownBlock) (hn : w'.ownsRow base 3 1 u p'.length (Zv p')) : OwnE w' base ob vs (ps.set k p') n := by
  obtain ⟨u0, f1, f2, f3⟩ := h.1 k hk hkn
  rw [hu] at f1
  have := Option.some.inj f1
  subst this
  refine ⟨?_, h.2⟩
  intro i hi hin
  rw [List.length_set] at hi
  by_cases e : i = k
  · subst e
    refine ⟨u, hu, ?_, f3⟩
    rw [List.getElem_set_self]
    exact hn
  · obtain ⟨x, e1, e2, e3⟩ := h.1 i hi hin
    refine ⟨x, e1, ?_, e3⟩
    rw [List.getElem_set_ne (by omega)]
    exact e2.kept hg (h.2 i k x u hin hkn e e1 hu)

/-- a list of lists in memory of its own, the lists' blocks below a mark -/
def OwnPM (M : Nat) (w : World) (base : Nat) (v : Value) (ps : List (List Int)) : Prop :=
  ∃ vs : List Value, w.ownsRow base 45 1 v ps.length vs ∧ OwnE w base v.ownBlock vs ps ps.length ∧ ∀ i u, i < ps.length → vs[i]? = some u → ∀ j, u.ownBlock = some j → j < M
theorem OwnP.top {w : World} {base : Nat} {v : Value} {ps : List (List Int)} (h : OwnP w base v ps) : OwnPM w.heap.size w base v ps := by
  obtain ⟨vs, h1, h2⟩ := h
  refine ⟨vs, h1, h2, fun i u hi hu j hj => ?_⟩
  obtain ⟨x, e1, e2, -⟩ := h2.1 i hi hi
  rw [hu] at e1
  cases e1
  exact (World.ownsRow.lt e2 j hj).2
theorem OwnPM.own {M : Nat} {w : World} {base : Nat} {v : Value} {ps : List (List Int)} (h : OwnPM M w base v ps) : OwnP w base v ps := let ⟨vs, h1, h2, _⟩ := h; ⟨vs, h1, h2⟩
theorem OwnPM.below {M : Nat} {w w' : World} {base : Nat} {v : Value} {ps : List (List Int)} (h : OwnPM M w base v ps) (hb : Below w.heap.size w w') : OwnPM M w' base v ps :=
  let ⟨vs, h1, h2, h3⟩ := h; ⟨vs, ownOn h1 hb, h2.below hb, h3⟩
theorem OwnPM.farG {M g : Nat} {w w' : World} {base : Nat} {v : Value} {ps : List (List Int)} (h : OwnPM M w base v ps) (hg : w.grownBy w' (some g)) (hlt : g < base) : OwnPM M w' base v ps := by
  obtain ⟨vs, h1, ⟨h2, h4⟩, h3⟩ := h
  have key : ∀ {e n : Nat} {x : Value} {xs : List Value}, w.ownsRow base e 1 x n xs → w'.ownsRow base e 1 x n xs := fun hx => hx.kept hg (.inr (fun e => by
    have := (World.ownsRow.lt hx g e).1
    omega))
  exact ⟨vs, key h1, ⟨fun i hi hk => let ⟨x, e1, e2, e3⟩ := h2 i hi hk; ⟨x, e1, key e2, e3⟩, h4⟩, h3⟩

/-- the first j lists marked -/
def mkU (k0 : Nat) (ps : List (List Int)) (j : Nat) : List (List Int) := (mkP k0 ps).take j ++ ps.drop j
theorem mkU_len (k0 : Nat) (ps : List (List Int)) (j : Nat) (h : j ≤ ps.length) : (mkU k0 ps j).length = ps.length := by
  simp only [mkU, List.length_append, List.length_take, List.length_drop, mkP_len]
  omega
theorem mkU_get (k0 : Nat) (ps : List (List Int)) (j : Nat) (h : j < ps.length) : (mkU k0 ps j)[j]? = some ps[j] := by
  have h9 : ((mkP k0 ps).take j).length = j := by rw [List.length_take, mkP_len]; omega
  unfold mkU
  rw [List.getElem?_append_right (by omega), h9, Nat.sub_self, List.getElem?_drop, Nat.add_zero, List.getElem?_eq_getElem h]
theorem mkU_step (k0 : Nat) (ps : List (List Int)) (j : Nat) (h : j < ps.length) : (mkU k0 ps j).set j (mks (k0 + tot (ps.take j)) ps[j].length) = mkU k0 ps (j + 1) := by
  have h9 : ((mkP k0 ps).take j).length = j := by rw [List.length_take, mkP_len]; omega
  have hj : j < (mkP k0 ps).length := by rw [mkP_len]; exact h
  have e := mkP_get ps k0 j h
  rw [List.getElem?_eq_getElem hj] at e
  have e2 := Option.some.inj e
  unfold mkU
  rw [List.set_append_right _ _ (by omega), h9, Nat.sub_self, List.drop_eq_getElem_cons h, List.set_cons_zero, ← e2, List.take_succ_eq_append_getElem hj, List.append_assoc]
  rfl
theorem mkU_all (k0 : Nat) (ps : List (List Int)) : mkU k0 ps ps.length = mkP k0 ps := by
  unfold mkU
  rw [List.take_of_length_le (by rw [mkP_len]; omega), List.drop_length, List.append_nil]

set_option maxHeartbeats 2000000 in
set_option maxRecDepth 100000 in
theorem markPtS (M base g cap k0 : Nat) (ps : List (List Int)) (w : World) (hl : ps.length ≤ 1048576) (ht : tot ps ≤ 1048576) (hk0 : k0 ≤ 1048576) (ho : OwnPM M w base (.slice (some ⟨g, 0, none⟩) ps.length cap) ps) :
    Calls Try.prog 53 #[.slice (some ⟨g, 0, none⟩) ps.length cap, .int .i64 (k0 : Int)] w fun e w' => e = .returned (.int .i64 ((k0 : Int) + (tot ps : Int))) ∧
      OwnP w' base (.slice (some ⟨g, 0, none⟩) ps.length cap) (mkP k0 ps) ∧ Below base w w' ∧ ∀ i, M ≤ i → i < w.heap.size → w'.heap[i]? = w.heap[i]? := by
  have hbs : base ≤ w.heap.size := by
    obtain ⟨vs, hrow, -⟩ := ho
    have := World.ownsRow.lt hrow g rfl
    omega
  go_enter Try.func53, Try.ntmps53
  go_wp2
  go_loopw [1, 5] (fun q i wr => ∃ (j m : Nat), j ≤ ps.length ∧ i = .int .i64 j ∧ q = .int .i64 (m : Int) ∧ Hid (m = k0 + tot (ps.take j)) ∧ OwnPM M wr base (.slice (some ⟨g, 0, none⟩) ps.length cap) (mkU k0 ps j) ∧ Below base w wr ∧ Hid (∀ i, M ≤ i → i < w.heap.size → wr.heap[i]? = w.heap[i]?)) (fun _ i _ => ps.length - (intOf i).toNat)
  case atStart => exact ⟨0, k0, Nat.zero_le _, rfl, rfl, by show k0 = k0 + tot (ps.take 0); simp [tot], ho, Below.refl _ _, fun _ _ _ => rfl⟩
  case round =>
    obtain ⟨j, m, hj, rfl, rfl, HM, hO, hb, HF⟩ := hrel
    by_cases hlt : j < ps.length
    · have hm : m ≤ 2097152 := by
        have h1 := HM.out
        have h2 := tot_take_le ps j
        omega
      have hpl : ps[j].length ≤ 1048576 := Nat.le_trans (tot_mem (List.getElem_mem hlt)) ht
      have HT : Hid (m + ps[j].length = k0 + tot (ps.take (j + 1))) := by
        have h1 := HM.out
        have h2 := tot_step hlt
        show m + ps[j].length = k0 + tot (ps.take (j + 1))
        omega
      have HS := mkU_step k0 ps j hlt
      rw [← HM.out] at HS
      obtain ⟨vs, hrow, hE, hT⟩ := hO
      have hul := mkU_len k0 ps j hj
      rw [hul] at hrow
      obtain ⟨u, hu1, hu2, hu3⟩ := hE.1 j (by omega) (by omega)
      have hg9 := mkU_get k0 ps j hlt
      rw [List.getElem?_eq_getElem (by omega)] at hg9
      rw [Option.some.inj hg9] at hu2
      obtain ⟨au, cu, rfl⟩ := Zv_shape hu2
      have hcell := hrow.cellAt j (by omega)
      rw [hu1] at hcell
      have cM := markZ base au cu ps[j].length m _ wr hpl (by omega) hu2
      have hj0 : (0 : Int) ≤ (j : Int) := by omega
      go_wp2_with fail
      refine cM.mono ?_
      rintro e w2 ⟨rfl, ho2, hg2⟩
      have hE2 := OwnE.turn (k := j) (p' := mks m ps[j].length) hE (by omega) (by omega) hu1 hg2 (by rw [mks_len]; exact ho2)
      rw [HS] at hE2
      have hrow2 := hrow.kept hg2 (.inr (fun e => by
        rcases hu3 with h9 | h9
        · rw [h9] at e; cases e
        · exact h9 e.symm))
      have hB2 : Below base w w2 := hb.grown hg2 (Nat.le_trans hbs hb.size) (fun i e => (World.ownsRow.lt hu2 i e).1)
      have hO2 : OwnPM M w2 base (.slice (some ⟨g, 0, none⟩) ps.length cap) (mkU k0 ps (j + 1)) := ⟨vs, by rw [mkU_len k0 ps (j + 1) (by omega)]; exact hrow2, by rw [mkU_len k0 ps (j + 1) (by omega)]; rw [hul] at hE2; exact hE2, by rw [mkU_len k0 ps (j + 1) (by omega)]; rw [hul] at hT; exact hT⟩
      have HF2 : Hid (∀ i, M ≤ i → i < w.heap.size → w2.heap[i]? = w.heap[i]?) := fun i hi hl => by
        rw [hg2.block i (Nat.lt_of_lt_of_le hl hb.size) (fun e => by have := hT j _ (by omega) hu1 i e.symm; omega)]
        exact HF.out i hi hl
      clear HF hT hE2 hrow2 hE hrow hu1 hu2 hu3 ho2 hg2 hg9 HS cM hcell
      generalize ps[j].length = n at HT hpl
      go_wp2
      go_roundw
      case rel => exact ⟨j + 1, m + n, by omega, by go_num, by go_num, HT, hO2, hB2, HF2⟩
      case measure => simp [intOf]; omega
    · have hjn : j = ps.length := by omega
      have hO2 : OwnP wr base (.slice (some ⟨g, 0, none⟩) ps.length cap) (mkP k0 ps) := by
        rw [hjn, mkU_all] at hO
        exact hO.own
      have em : (m : Int) = (k0 : Int) + (tot ps : Int) := by
        have h1 := HM.out
        rw [hjn, List.take_length] at h1
        omega
      clear hO HM
      rw [em]
      go_wp2
      go_ret
      exact ⟨rfl, hO2, hb, HF.out⟩

set_option maxHeartbeats 1000000 in
set_option maxRecDepth 100000 in
theorem markRg (reps : Int) (M base g cap k0 : Nat) (ps : List (List Int)) (w : World) (hl : ps.length ≤ 1048576) (ht : tot ps ≤ 1048576) (hk0 : k0 ≤ 1048576) (ho : OwnPM M w base (.slice (some ⟨g, 0, none⟩) ps.length cap) ps) :
    Calls Try.prog 29 #[.agg #[.int .i64 reps, .slice (some ⟨g, 0, none⟩) ps.length cap], .int .i64 (k0 : Int)] w fun e w' => e = .returned (.int .i64 ((k0 : Int) + (tot ps : Int))) ∧
      OwnP w' base (.slice (some ⟨g, 0, none⟩) ps.length cap) (mkP k0 ps) ∧ Below base w w' ∧ ∀ i, M ≤ i → i < w.heap.size → w'.heap[i]? = w.heap[i]? := by
  have hbs : base ≤ w.heap.size := by
    obtain ⟨vs, hrow, -⟩ := ho
    have := World.ownsRow.lt hrow g rfl
    omega
  have b0 := bel1 w (.cells #[.int .i64 reps, .slice (some ⟨g, 0, none⟩) ps.length cap] 31)
  go_enter Try.func29, Try.ntmps29
  go_wp2_with fail
  refine (markPtS M base g cap k0 ps _ hl ht hk0 (ho.below b0)).mono ?_
  rintro e w1 ⟨rfl, ho1, hb1, hf1⟩
  go_wp2
  go_ret
  exact ⟨rfl, ho1, (b0.mono hbs).trans hb1, fun i hi hl => (hf1 i hi (Nat.lt_of_lt_of_le hl b0.size)).trans (b0.block i hl)⟩
set_option maxHeartbeats 1000000 in
set_option maxRecDepth 100000 in
theorem markRg0 (reps : Int) (k0 : Nat) (w : World) :
    Calls Try.prog 29 #[.agg #[.int .i64 reps, .slice none 0 0], .int .i64 (k0 : Int)] w fun e w' => e = .returned (.int .i64 (k0 : Int)) ∧ Below w.heap.size w w' := by
  have b0 := bel1 w (.cells #[.int .i64 reps, .slice none 0 0] 31)
  have c0 : ∀ w, Calls Try.prog 53 #[.slice none 0 0, .int .i64 (k0 : Int)] w fun e w' => e = .returned (.int .i64 (k0 : Int)) ∧ w' = w := fun w => by
    go_enter Try.func53, Try.ntmps53
    go_wp2
    go_loop [1, 5] (fun q i => i = .int .i64 0 ∧ q = .int .i64 (k0 : Int)) (fun _ _ => 0)
    case atStart => exact ⟨rfl, rfl⟩
    case round =>
      obtain ⟨rfl, rfl⟩ := hrel
      go_wp2
      go_ret
      exact ⟨rfl, rfl⟩
  go_enter Try.func29, Try.ntmps29
  go_wp2_with fail
  refine (c0 _).mono ?_
  rintro e wa ⟨rfl, hwa⟩
  subst wa
  go_wp2
  go_ret
  exact ⟨rfl, b0⟩
/-- marks in a ring in memory of its own, be it empty or not -/
theorem markRgA (reps : Int) (M base : Nat) (a : Option Addr) (cap k0 : Nat) (ps : List (List Int)) (w : World) (hl : ps.length ≤ 1048576) (ht : tot ps ≤ 1048576) (hk0 : k0 ≤ 1048576) (hbs : base ≤ w.heap.size) (ho : OwnPM M w base (.slice a ps.length cap) ps) :
    Calls Try.prog 29 #[.agg #[.int .i64 reps, .slice a ps.length cap], .int .i64 (k0 : Int)] w fun e w' => e = .returned (.int .i64 ((k0 : Int) + (tot ps : Int))) ∧
      RdP w' a (mkP k0 ps) ∧ Below base w w' ∧ ∀ i, M ≤ i → i < w.heap.size → w'.heap[i]? = w.heap[i]? := by
  obtain ⟨vs, hrow, -⟩ := id ho
  rcases hrow.2 with ⟨e, h0⟩ | ⟨g, cap', cur, e, _⟩
  · have hnil : ps = [] := List.length_eq_zero_iff.1 h0
    subst hnil
    simp only [Value.slice.injEq] at e
    obtain ⟨rfl, -, rfl⟩ := e
    refine (markRg0 reps k0 w).mono ?_
    rintro e w' ⟨rfl, hb⟩
    refine ⟨by simp [tot], fun i hi => ?_, hb.mono hbs, fun i _ hl => hb.block i hl⟩
    simp [mkP] at hi
  · simp only [Value.slice.injEq] at e
    obtain ⟨rfl, -, rfl⟩ := e
    refine (markRg reps M base g cap k0 ps w hl ht hk0 ho).mono ?_
    rintro e w' ⟨rfl, h1, h2, h3⟩
    exact ⟨rfl, h1.rdS, h2, h3⟩

set_option maxHeartbeats 1000000 in
set_option maxRecDepth 100000 in
theorem heldPtS (a : Option Addr) (cap k0 : Nat) (ps : List (List Int)) (w : World) (hl : ps.length ≤ 1048576) (ht : tot ps ≤ 1048576) (hk0 : k0 ≤ 1048576) (hr : RdP w a (mkP k0 ps)) :
    Calls Try.prog 54 #[.slice a ps.length cap, .int .i64 (k0 : Int)] w fun e w' => e = .returned (.int .i64 ((k0 : Int) + (tot ps : Int))) ∧ w' = w := by
  go_enter Try.func54, Try.ntmps54
  go_wp2
  go_loopw [1, 5] (fun q i wr => ∃ (j m : Nat), j ≤ ps.length ∧ i = .int .i64 j ∧ q = .int .i64 (m : Int) ∧ Hid (m = k0 + tot (ps.take j)) ∧ wr = w) (fun _ i _ => ps.length - (intOf i).toNat)
  case atStart => exact ⟨0, k0, Nat.zero_le _, rfl, rfl, by show k0 = k0 + tot (ps.take 0); simp [tot], rfl⟩
  case round =>
    obtain ⟨j, m, hj, rfl, rfl, HM, hwr⟩ := hrel
    subst hwr
    by_cases hlt : j < ps.length
    · have hm : m ≤ 2097152 := by
        have h1 := HM.out
        have h2 := tot_take_le ps j
        omega
      have hpl : ps[j].length ≤ 1048576 := Nat.le_trans (tot_mem (List.getElem_mem hlt)) ht
      have HT : Hid (m + ps[j].length = k0 + tot (ps.take (j + 1))) := by
        have h1 := HM.out
        have h2 := tot_step hlt
        show m + ps[j].length = k0 + tot (ps.take (j + 1))
        omega
      obtain ⟨b, off, ai, ci, rfl, hc, hz, -⟩ := hr j (by rw [mkP_len]; exact hlt)
      have e := mkP_get ps k0 j hlt
      rw [List.getElem?_eq_getElem (by rw [mkP_len]; exact hlt), ← HM.out] at e
      rw [Option.some.inj e] at hc hz
      rw [mks_len] at hc
      have cH := heldZ ai ci ps[j].length m wr hpl (by omega) hz
      clear e hz
      generalize ps[j].length = n at HT hpl cH hc
      have hpos : ¬ (m : Int) + (n : Int) < 0 := by omega
      go_wp2_with fail
      refine cH.mono ?_
      rintro e wa ⟨rfl, hwa⟩
      subst wa
      go_wp2
      go_roundw
      case rel => exact ⟨j + 1, m + n, by omega, by go_num, by go_num, HT, by trivial⟩
      case measure => simp [intOf]; omega
    · have em : (m : Int) = (k0 : Int) + (tot ps : Int) := by
        have h1 := HM.out
        rw [List.take_of_length_le (by omega)] at h1
        omega
      clear HM
      rw [em]
      go_wp2
      go_ret
      exact ⟨rfl, rfl⟩
set_option maxHeartbeats 1000000 in
set_option maxRecDepth 100000 in
theorem heldRg (reps : Int) (a : Option Addr) (cap k0 : Nat) (ps : List (List Int)) (w : World) (hl : ps.length ≤ 1048576) (ht : tot ps ≤ 1048576) (hk0 : k0 ≤ 1048576) (hr : RdP w a (mkP k0 ps)) :
    Calls Try.prog 30 #[.agg #[.int .i64 reps, .slice a ps.length cap], .int .i64 (k0 : Int)] w fun e w' => e = .returned (.int .i64 ((k0 : Int) + (tot ps : Int))) ∧ Below w.heap.size w w' := by
  have b0 := bel1 w (.cells #[.int .i64 reps, .slice a ps.length cap] 31)
  have hpos : ¬ (k0 : Int) + (tot ps : Int) < 0 := by omega
  go_enter Try.func30, Try.ntmps30
  go_wp2_with fail
  refine (heldPtS a cap k0 ps _ hl ht hk0 (hr.below b0)).mono ?_
  rintro e wa ⟨rfl, hwa⟩
  subst wa
  go_wp2
  go_ret
  exact ⟨rfl, b0⟩
end Go.Proofs.Ytcejeiakgmamdan.Wk
