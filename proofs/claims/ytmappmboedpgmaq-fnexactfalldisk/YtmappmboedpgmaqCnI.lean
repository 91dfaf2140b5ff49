/- What slices.Grow and slices.Concat over named bytes come to. -/
import Derived.Test.YtmappmboedpgmaqApR
import Derived.Test.YtmappmboedpgmaqDmS
import Derived.Test.YtmappmboedpgmaqRwO
import Derived.Lib.AppendZerosOnto
import Derived.Lib.SliceRun
import Derived.Lib.Walk
import Derived.Laws.OwnMore
import Derived.Laws.AppendOwn
namespace Go.Proofs.Ytmappmboedpgmaq.Wk
set_option linter.unusedVariables false
open Go.ChangeShapes Go.WideShapes Go.ChangeAt Go.RowKit Go.Maps

theorem infoNdX : ∃ i0 : TypeInfo, Try.prog.info? 57 = some i0 ∧ i0.zero = some (.agg #[.string ByteArray.empty, .slice none 0 0]) ∧ i0.size = 2 ∧ i0.bytes = 40 := info_parts infoNd

set_option maxHeartbeats 2000000 in
set_option maxRecDepth 100000 in
theorem growNd (n : Nat) (w : World) (hn : n ≤ 2097152) :
    Calls Try.prog 64 #[.slice none 0 0, .int .i64 (n : Int)] w fun e w' => ∃ (a : Option Addr) (c : Nat), e = .returned (.slice a 0 c) ∧ w'.ownsRow w.heap.size 57 2 (.slice a 0 c) 0 [] ∧ Below w.heap.size w w' := by
  obtain ⟨i0, hif, hz0, hz1, hz2⟩ := infoNdX
  have h0 : ¬ ((n : Int) < 0) := by omega
  have hw0 : wrap64 (n : Int) = n := by unfold wrap64; omega
  by_cases hn0 : 0 < n
  · have h1 : (0 : Int) < (n : Int) := by omega
    have hold : (Builtin.firstCells i0.size 0 (.slice none 0 0)).run Try.prog w.drew = .ok ([] : List Value).toArray w.drew := run_firstCells_none w.drew i0.size 0 0 0
    have hr := Lib.run_append_grow_zeros w 26 3 26 57 i0 (.agg #[.string ByteArray.empty, .slice none 0 0]) .i64 .i64 Try.underlying26 Try.underlying3 hif hz0 none 0 0 [] hold n hn0 (by omega) (by omega) (by omega) (by rw [hz2]; omega) (by rw [Nat.zero_add, hz2]; exact growslice_fits (by omega) (by omega))
    rw [Nat.zero_add] at hr
    have hG := grownCap_ge w n 0 57
    have hG2 := grownCap_le_maxLen w n 0 57 (by unfold maxLen; omega)
    have hown : (w.drew.alloc (.cells (([] : List Value).toArray ++ Builtin.zeroCells (Value.agg #[.string ByteArray.empty, .slice none 0 0]).cells n ++ Builtin.zeroCells (Value.agg #[.string ByteArray.empty, .slice none 0 0]).cells (grownCap w n 0 57 - n)) 57)).ownsRow w.heap.size 57 2 (.slice (some ⟨w.heap.size, 0, none⟩) 0 (grownCap w n 0 57)) 0 [] :=
      World.ownsRow_made w.drew _ _ (Nat.le_refl _) hG2 (by simp [size_zeroCells, Value.cells]; omega)
    have hB : Below w.heap.size w (w.drew.alloc (.cells (([] : List Value).toArray ++ Builtin.zeroCells (Value.agg #[.string ByteArray.empty, .slice none 0 0]).cells n ++ Builtin.zeroCells (Value.agg #[.string ByteArray.empty, .slice none 0 0]).cells (grownCap w n 0 57 - n)) 57)) := (Below.refl _ w).drew.alloc (Nat.le_refl _) _
    generalize w.drew.alloc (.cells (([] : List Value).toArray ++ Builtin.zeroCells (Value.agg #[.string ByteArray.empty, .slice none 0 0]).cells n ++ Builtin.zeroCells (Value.agg #[.string ByteArray.empty, .slice none 0 0]).cells (grownCap w n 0 57 - n)) 57) = w5 at *
    generalize grownCap w n 0 57 = G at *
    unfold maxLen at hG2
    have hGn : (n : Int) ≤ (G : Int) := by omega
    have hG0 : (0 : Int) ≤ (G : Int) := by omega
    clear hold
    go_enter Try.func64, Try.ntmps64
    go_wp2_with (at_builtin; refine Lib.wpList_append_run _ rfl _ _ _ _ rfl _ _ rfl rfl _ _ hr ?_)
    all_goals (go_ret; exact ⟨_, _, rfl, hown, hB⟩)
  · obtain rfl : n = 0 := by omega
    go_enter Try.func64, Try.ntmps64
    go_wp2
    go_ret
    exact ⟨none, 0, rfl, World.ownsRow_nil _ _ _ _, Below.refl _ _⟩
theorem RdR.news {w : World} {ad : Addr} {rs : List Rw} (h : RdR w (some ad) rs) : ∀ j u, (csR rs)[j]? = some u → w.cell? (ad.add j) = some u := by
  intro j u hj
  have hlt : j < (csR rs).length := by
    rcases Nat.lt_or_ge j (csR rs).length with h | h
    · exact h
    · rw [List.getElem?_eq_none h] at hj; cases hj
  rw [csR_len] at hlt
  have hi : j / 2 < rs.length := by omega
  obtain ⟨b, off, e, c1, c2⟩ := h (j / 2) hi
  obtain ⟨g1, g2⟩ := csR_get rs (j / 2) hi
  cases e
  rw [Go.WideShapes.add_plain]
  rcases Nat.mod_two_eq_zero_or_one j with h0 | h0
  · have ej : j = j / 2 * 2 := by omega
    rw [← ej] at g1 c1
    rw [g1] at hj
    cases hj
    exact c1
  · have ej : j = j / 2 * 2 + 1 := by omega
    rw [show off + j / 2 * 2 + 1 = off + j from by omega] at c2
    rw [← ej] at g2
    rw [g2] at hj
    cases hj
    exact c2
theorem csR_one {rs : List Rw} (h : ∀ r ∈ rs, ∃ a n c, r.2.1 = .slice a n c) : ∀ y ∈ csR rs, y.oneCell' = true := by
  intro y hy
  obtain ⟨r, hr, hy⟩ := List.mem_flatMap.1 hy
  obtain ⟨a, n, c, e⟩ := h r hr
  rw [e] at hy
  simp at hy
  rcases hy with rfl | rfl <;> rfl
/-- rows that are read put behind a row of one's own, whether it is nil or not -/
theorem wpList_appS (w : World) {ops : Array Oper} {rest : List Oper} {o : Oper} {a : Act} {Q : Exit → Act → World → Prop} (hgd : o.guard = none) (s x : Operand)
    (ho : o.op = .call { callee := .builtin .append, args := #[s, x], argTypes := #[26, 26] })
    (base : Nat) (v : Value) (n : Nat) (xs : List Value) (hs : a.eval s = v) (hown : w.ownsRow base 57 2 v n xs) (au : Option Addr) (cu : Nat) (rs : List Rw) (hx : a.eval x = .slice au rs.length cu) (hr : RdR w au rs) (hnil : au = none → cu = 0) (h1 : ∀ r ∈ rs, ∃ a n c, r.2.1 = .slice a n c)
    (hl : n + rs.length ≤ 4194304) (hbase : base ≤ w.heap.size)
    (h : ∀ v' w', w'.ownsRow base 57 2 v' (n + rs.length) (xs ++ csR rs) → w.grownBy w' v.ownBlock → wpList Try.prog ops Q rest (a.put o.dst v') w') : wpList Try.prog ops Q (o :: rest) a w := by
  obtain ⟨i0, hif, hz0, hz1, hz2⟩ := infoNdX
  cases au with
  | none =>
    obtain rfl := hnil rfl
    have hy : rs = [] := by
      cases rs with
      | nil => rfl
      | cons r t =>
        obtain ⟨_, _, e, _⟩ := hr 0 (by simp)
        cases e
    subst hy
    have hrun := run_append_owned_none (P := Try.prog) (w := w) base 26 o.type 57 i0 2 Try.underlying26 hif v n xs hown
    exact Lib.wpList_append_run w hgd s x _ _ ho _ _ hs hx _ _ hrun (h v w (by simpa [csR] using hown) ⟨rfl, rfl, rfl, Nat.le_refl _, fun _ _ _ => rfl⟩)
  | some ad => exact wpList_append_own w hgd s x 26 ho base 57 i0 (.agg #[.string ByteArray.empty, .slice none 0 0]) 2 40 Try.underlying26 hif hz0 hz1 hz2 rfl (by decide) v n xs hs hown ad rs.length cu (csR rs) hx (csR_len rs) hr.news (csR_one h1) (by unfold maxLen; omega) (by omega) hbase fun v' w' h2 h3 _ => h v' w' h2 h3
theorem grownOwnN {w wr w' : World} {base n : Nat} {v : Value} {xs : List Value} (hb : Below base w wr) (ho : wr.ownsRow base 57 2 v n xs) (hg : wr.grownBy w' v.ownBlock) (hs : base ≤ wr.heap.size) : Below base w w' :=
  hb.grown hg hs (fun j e => (World.ownsRow.lt ho j e).1)

set_option maxHeartbeats 4000000 in
set_option maxRecDepth 100000 in
theorem concatN (h cap cu cv : Nat) (au av : Option Addr) (A O : List Rw) (w : World) (hn1 : A.length ≤ 1048576) (hm1 : O.length ≤ 1048576) (hc0 : w.cell? ⟨h, 0, none⟩ = some (.slice au A.length cu)) (hc1 : w.cell? ⟨h, 1, none⟩ = some (.slice av O.length cv))
    (hu : RdR w au A) (hv : RdR w av O) (nu : au = none → cu = 0) (nv : av = none → cv = 0) (ku : ∀ r ∈ A, ∃ a n c, r.2.1 = .slice a n c) (kv : ∀ r ∈ O, ∃ a n c, r.2.1 = .slice a n c) :
    Calls Try.prog 45 #[.slice (some ⟨h, 0, none⟩) 2 cap] w fun e w' => ∃ (a : Option Addr) (c : Nat), e = .returned (.slice a (A.length + O.length) c) ∧ w'.ownsRow w.heap.size 57 2 (.slice a (A.length + O.length) c) (A.length + O.length) (csR (A ++ O)) ∧ Below w.heap.size w w' := by
  have eApp := csR_append A O
  have hA1 := fun (W : World) (hb : Below w.heap.size w W) => hu.below hb
  have hO1 := fun (W : World) (hb : Below w.heap.size w W) => hv.below hb
  obtain ⟨n, hN⟩ : ∃ n, A.length = n := ⟨_, rfl⟩
  obtain ⟨m, hM⟩ : ∃ m, O.length = m := ⟨_, rfl⟩
  have HA : Hid (A.length = n) := hN
  have HO : Hid (O.length = m) := hM
  rw [hN] at hc0 hn1 ⊢
  rw [hM] at hc1 hm1 ⊢
  clear hN hM
  have hw1 : wrap64 (0 + (n : Int)) = n := by unfold wrap64; omega
  have hw2 : wrap64 ((n : Int) + (m : Int)) = ((n + m : Nat) : Int) := by unfold wrap64; omega
  have hp1 : ¬ ((n : Int) < 0) := by omega
  have hp2 : ¬ (((n + m : Nat) : Int) < 0) := by omega
  go_enter Try.func45, Try.ntmps45
  go_wp2
  go_loop [3, 11] (fun q i => (q = .int .i64 0 ∧ i = .int .i64 0) ∨ (q = .int .i64 (n : Int) ∧ i = .int .i64 1) ∨ (q = .int .i64 ((n + m : Nat) : Int) ∧ i = .int .i64 2)) (fun _ i => 2 - (intOf i).toNat)
  case atStart => exact .inl ⟨rfl, rfl⟩
  case round =>
    obtain ⟨rfl, rfl⟩ | ⟨rfl, rfl⟩ | ⟨rfl, rfl⟩ := hrel
    · go_wp2
      go_round
      case rel => exact .inr (.inl ⟨by go_num, rfl⟩)
      case measure => simp [intOf]
    · go_wp2
      go_round
      case rel => exact .inr (.inr ⟨by go_num, rfl⟩)
      case measure => simp [intOf]
    · go_wp2_with fail
      refine (growNd (n + m) w (by omega)).mono ?_
      rintro e w2 ⟨a2, c2, rfl, ho2, hb2⟩
      go_wp2_with fail
      go_loopw [6, 27] (fun v i wr => ((i = .int .i64 0 ∧ wr.ownsRow w.heap.size 57 2 v 0 []) ∨ (i = .int .i64 1 ∧ wr.ownsRow w.heap.size 57 2 v n (csR A)) ∨ (i = .int .i64 2 ∧ wr.ownsRow w.heap.size 57 2 v (n + m) (csR (A ++ O)))) ∧ Below w.heap.size w wr) (fun _ i _ => 2 - (intOf i).toNat)
      case atStart => exact ⟨.inl ⟨rfl, ho2⟩, hb2⟩
      case round =>
      obtain ⟨⟨rfl, ho⟩ | ⟨rfl, ho⟩ | ⟨rfl, ho⟩, hb⟩ := hrel
      · obtain ⟨a5, c5, rfl⟩ := Nd_shape ho
        have hu' := hA1 wr hb
        have hc' := cellNd hc0 hb
        go_wp2_with (at_builtin; refine wpList_appS _ rfl _ _ rfl w.heap.size _ _ _ rfl ho au cu A (by rw [HA.out]; rfl) hu' nu ku (by rw [HA.out]; omega) hb.size ?_; intro v6 w6 hown6 hgrow6)
        rw [HA.out] at hown6
        have hb6 := grownOwnN hb ho hgrow6 hb.size
        obtain ⟨a6, c6, rfl⟩ := Nd_shape hown6
        rw [Nat.zero_add, List.nil_append] at hown6
        go_wp2
        go_roundw
        case rel => exact ⟨.inr (.inl ⟨rfl, by rw [Nat.zero_add]; exact hown6⟩), hb6⟩
        case measure => simp [intOf]
      · obtain ⟨a5, c5, rfl⟩ := Nd_shape ho
        have hu' := hO1 wr hb
        have hc' := cellNd hc1 hb
        go_wp2_with (at_builtin; refine wpList_appS _ rfl _ _ rfl w.heap.size _ _ _ rfl ho av cv O (by rw [HO.out]; rfl) hu' nv kv (by rw [HO.out]; omega) hb.size ?_; intro v6 w6 hown6 hgrow6)
        rw [HO.out] at hown6
        have hb6 := grownOwnN hb ho hgrow6 hb.size
        obtain ⟨a6, c6, rfl⟩ := Nd_shape hown6
        rw [← eApp] at hown6
        go_wp2
        go_roundw
        case rel => exact ⟨.inr (.inr ⟨rfl, hown6⟩), hb6⟩
        case measure => simp [intOf]
      · obtain ⟨a5, c5, rfl⟩ := Nd_shape ho
        go_wp2
        go_ret
        exact ⟨a5, c5, rfl, ho, hb⟩
end Go.Proofs.Ytmappmboedpgmaq.Wk
