/- What slices.Grow and slices.Concat over pointers to devices come to. -/
import Derived.Test.YtcejeiakgmamdacOtI
import Derived.Lib.AppendZerosOnto
import Derived.Lib.SliceRun
import Derived.Lib.Walk
import Derived.Laws.OwnMore
import Derived.Laws.AppendOwn
namespace Go.Proofs.Ytcejeiakgmamdac.Wk
set_option linter.unusedVariables false
open Go.ChangeShapes Go.WideShapes Go.ChangeAt Go.RowKit Go.Maps

theorem infoX' : ∃ i0 : TypeInfo, Try.prog.info? 78 = some i0 ∧ i0.zero = some (.pointer none) ∧ i0.size = 1 ∧ i0.bytes = 8 := info_parts infoX

set_option maxHeartbeats 2000000 in
set_option maxRecDepth 100000 in
theorem growNil (n : Nat) (w : World) (hn : n ≤ 2097152) :
    Calls Try.prog 102 #[.slice none 0 0, .int .i64 (n : Int)] w fun e w' => ∃ (a : Option Addr) (c : Nat), e = .returned (.slice a 0 c) ∧ w'.ownsRow w.heap.size 78 1 (.slice a 0 c) 0 [] ∧ Below w.heap.size w w' := by
  obtain ⟨i0, hif, hz0, hz1, hz2⟩ := infoX'
  have h0 : ¬ ((n : Int) < 0) := by omega
  have hw0 : wrap64 (n : Int) = n := by unfold wrap64; omega
  by_cases hn0 : 0 < n
  · have h1 : (0 : Int) < (n : Int) := by omega
    have hold : (Builtin.firstCells i0.size 0 (.slice none 0 0)).run Try.prog w.drew = .ok ([] : List Value).toArray w.drew := run_firstCells_none w.drew i0.size 0 0 0
    have hr := Lib.run_append_grow_zeros w 80 3 80 78 i0 (.pointer none) .i64 .i64 Try.underlying80 Try.underlying3 hif hz0 none 0 0 [] hold n hn0 (by omega) (by omega) (by omega) (by rw [hz2]; omega) (by rw [Nat.zero_add, hz2]; exact growslice_fits (by omega) (by omega))
    rw [Nat.zero_add] at hr
    have hG := grownCap_ge w n 0 78
    have hG2 := grownCap_le_maxLen w n 0 78 (by unfold maxLen; omega)
    have hown : (w.drew.alloc (.cells (([] : List Value).toArray ++ Builtin.zeroCells (Value.pointer none).cells n ++ Builtin.zeroCells (Value.pointer none).cells (grownCap w n 0 78 - n)) 78)).ownsRow w.heap.size 78 1 (.slice (some ⟨w.heap.size, 0, none⟩) 0 (grownCap w n 0 78)) 0 [] :=
      World.ownsRow_made w.drew _ _ (Nat.le_refl _) hG2 (by simp [size_zeroCells, Value.cells]; omega)
    have hB : Below w.heap.size w (w.drew.alloc (.cells (([] : List Value).toArray ++ Builtin.zeroCells (Value.pointer none).cells n ++ Builtin.zeroCells (Value.pointer none).cells (grownCap w n 0 78 - n)) 78)) := (Below.refl _ w).drew.alloc (Nat.le_refl _) _
    generalize w.drew.alloc (.cells (([] : List Value).toArray ++ Builtin.zeroCells (Value.pointer none).cells n ++ Builtin.zeroCells (Value.pointer none).cells (grownCap w n 0 78 - n)) 78) = w5 at *
    generalize grownCap w n 0 78 = G at *
    unfold maxLen at hG2
    have hGn : (n : Int) ≤ (G : Int) := by omega
    have hG0 : (0 : Int) ≤ (G : Int) := by omega
    clear hold
    go_enter Try.func102, Try.ntmps102
    go_wp2_with (at_builtin; refine Lib.wpList_append_run _ rfl _ _ _ _ rfl _ _ rfl rfl _ _ hr ?_)
    all_goals (go_ret; exact ⟨_, _, rfl, hown, hB⟩)
  · obtain rfl : n = 0 := by omega
    go_enter Try.func102, Try.ntmps102
    go_wp2
    go_ret
    exact ⟨none, 0, rfl, World.ownsRow_nil _ _ _ _, Below.refl _ _⟩
/-- a row of pointers put behind a row of one's own, whether it is nil or not -/
theorem wpList_appRow (w : World) {ops : Array Oper} {rest : List Oper} {o : Oper} {a : Act} {Q : Exit → Act → World → Prop} (hgd : o.guard = none) (s x : Operand)
    (ho : o.op = .call { callee := .builtin .append, args := #[s, x], argTypes := #[80, 80] })
    (base : Nat) (v : Value) (n : Nat) (xs : List Value) (hs : a.eval s = v) (hown : w.ownsRow base 78 1 v n xs) (b2 : Nat) (u : Value) (m : Nat) (ys : List Value) (hx : a.eval x = u) (hsrc : w.ownsRow b2 78 1 u m ys) (h1 : ∀ y ∈ ys, y.oneCell' = true)
    (hl : n + m ≤ 4194304) (hbase : base ≤ w.heap.size)
    (h : ∀ v' w', w'.ownsRow base 78 1 v' (n + m) (xs ++ ys) → w.grownBy w' v.ownBlock → wpList Try.prog ops Q rest (a.put o.dst v') w') : wpList Try.prog ops Q (o :: rest) a w := by
  obtain ⟨i0, hif, hz0, hz1, hz2⟩ := infoX'
  have hcs := fun (g : Nat) (e : u.ownBlock = some g) => World.ownsRow.cells hsrc e
  have hlen := hsrc.1
  rcases hsrc.2 with ⟨rfl, rfl⟩ | ⟨g, cap, cur, rfl, -⟩
  · have hy : ys = [] := List.eq_nil_of_length_eq_zero (by simpa using hlen)
    subst hy
    have hrun := run_append_owned_none (P := Try.prog) (w := w) base 80 o.type 78 i0 1 Try.underlying80 hif v n xs hown
    exact Lib.wpList_append_run w hgd s x _ _ ho _ _ hs hx _ _ hrun (h v w (by rw [List.append_nil]; exact hown) ⟨rfl, rfl, rfl, Nat.le_refl _, fun _ _ _ => rfl⟩)
  · exact wpList_append_own w hgd s x 80 ho base 78 i0 (.pointer none) 1 8 Try.underlying80 hif hz0 hz1 hz2 rfl (by decide) v n xs hs hown ⟨g, 0, none⟩ m cap ys hx hlen (hcs g rfl) h1 (by unfold maxLen; omega) (by omega) hbase fun v' w' h2 h3 _ => h v' w' h2 h3
theorem Pv_one (b : Nat) (L : List (Nat × Sm.St)) : ∀ y ∈ Pv b L, y.oneCell' = true := by
  intro y hy
  obtain ⟨x, -, rfl⟩ := List.mem_map.1 hy
  rfl
theorem Pv_app (b : Nat) (L M : List (Nat × Sm.St)) : Pv b (L ++ M) = Pv b L ++ Pv b M := by simp [Pv]

set_option maxHeartbeats 4000000 in
set_option maxRecDepth 100000 in
theorem concatI (h cap n m cu cv bu bl : Nat) (au av : Option Addr) (A O : List (Nat × Sm.St)) (w : World) (hn : A.length = n) (hm : O.length = m) (hn1 : n ≤ 1048576) (hm1 : m ≤ 1048576) (hc0 : w.cell? ⟨h, 0, none⟩ = some (.slice au n cu)) (hc1 : w.cell? ⟨h, 1, none⟩ = some (.slice av m cv))
    (hu : w.ownsRow bu 78 1 (.slice au n cu) n (Pv bl A)) (hv : w.ownsRow bu 78 1 (.slice av m cv) m (Pv bl O)) :
    Calls Try.prog 93 #[.slice (some ⟨h, 0, none⟩) 2 cap] w fun e w' => ∃ (a : Option Addr) (c : Nat), e = .returned (.slice a (n + m) c) ∧ w'.ownsRow w.heap.size 78 1 (.slice a (n + m) c) (n + m) (Pv bl (A ++ O)) ∧ Below w.heap.size w w' := by
  have hw1 : wrap64 (0 + (n : Int)) = n := by unfold wrap64; omega
  have hw2 : wrap64 ((n : Int) + (m : Int)) = ((n + m : Nat) : Int) := by unfold wrap64; omega
  have hp1 : ¬ ((n : Int) < 0) := by omega
  have hp2 : ¬ (((n + m : Nat) : Int) < 0) := by omega
  go_enter Try.func93, Try.ntmps93
  go_wp2
  go_loop [3, 11] (fun q i => (q = .int .i64 0 ∧ i = .int .i64 0) ∨ (q = .int .i64 (n : Int) ∧ i = .int .i64 1) ∨ (q = .int .i64 ((n + m : Nat) : Int) ∧ i = .int .i64 2)) (fun _ i => 2 - (intOf i).toNat)
  case atStart => exact .inl ⟨rfl, rfl⟩
  case round =>
    obtain ⟨rfl, rfl⟩ | ⟨rfl, rfl⟩ | ⟨rfl, rfl⟩ := hrel
    · go_wp2
      go_round
      case rel => exact .inr (.inl ⟨by go_num, rfl⟩)
      case measure => simp [intOf]
    · go_wp2
      go_round
      case rel => exact .inr (.inr ⟨by go_num, rfl⟩)
      case measure => simp [intOf]
    · go_wp2_with fail
      refine (growNil (n + m) w (by omega)).mono ?_
      rintro e w2 ⟨a2, c2, rfl, ho2, hb2⟩
      go_wp2_with fail
      go_loopw [6, 27] (fun v i wr => ((i = .int .i64 0 ∧ wr.ownsRow w.heap.size 78 1 v 0 []) ∨ (i = .int .i64 1 ∧ wr.ownsRow w.heap.size 78 1 v n (Pv bl A)) ∨ (i = .int .i64 2 ∧ wr.ownsRow w.heap.size 78 1 v (n + m) (Pv bl (A ++ O)))) ∧ Below w.heap.size w wr) (fun _ i _ => 2 - (intOf i).toNat)
      case atStart => exact ⟨.inl ⟨rfl, ho2⟩, hb2⟩
      case round =>
      obtain ⟨⟨rfl, ho⟩ | ⟨rfl, ho⟩ | ⟨rfl, ho⟩, hb⟩ := hrel
      · obtain ⟨a5, c5, rfl⟩ := Zv_shape ho
        have hu' := ownOn hu hb
        have hc' := cellOn hc0 hb
        go_wp2_with (at_builtin; refine wpList_appRow _ rfl _ _ rfl w.heap.size _ _ _ rfl ho bu _ _ _ rfl hu' (Pv_one _ _) (by omega) hb.size ?_; intro v6 w6 hown6 hgrow6)
        have hb6 := grownOwnX hb ho hgrow6 hb.size
        obtain ⟨a6, c6, rfl⟩ := Zv_shape hown6
        rw [Nat.zero_add, List.nil_append] at hown6
        go_wp2
        go_roundw
        case rel => exact ⟨.inr (.inl ⟨rfl, by rw [Nat.zero_add]; exact hown6⟩), hb6⟩
        case measure => simp [intOf]
      · obtain ⟨a5, c5, rfl⟩ := Zv_shape ho
        have hu' := ownOn hv hb
        have hc' := cellOn hc1 hb
        go_wp2_with (at_builtin; refine wpList_appRow _ rfl _ _ rfl w.heap.size _ _ _ rfl ho bu _ _ _ rfl hu' (Pv_one _ _) (by omega) hb.size ?_; intro v6 w6 hown6 hgrow6)
        have hb6 := grownOwnX hb ho hgrow6 hb.size
        obtain ⟨a6, c6, rfl⟩ := Zv_shape hown6
        rw [← Pv_app] at hown6
        go_wp2
        go_roundw
        case rel => exact ⟨.inr (.inr ⟨rfl, hown6⟩), hb6⟩
        case measure => simp [intOf]
      · obtain ⟨a5, c5, rfl⟩ := Zv_shape ho
        go_wp2
        go_ret
        exact ⟨a5, c5, rfl, ho, hb⟩
end Go.Proofs.Ytcejeiakgmamdac.Wk
