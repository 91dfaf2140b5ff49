/- append of a list of numbers to a row of one's own, whether the list is nil or not; has of the laws. -/
import Derived.Test.YtcejeiakgmamdacZnM
import Derived.Test.YtcejeiakgmamdacStB
import Derived.Laws.OwnMore
import Derived.Laws.AppendOwn
import Derived.Deep.AppendLies
import Derived.Maps.AppendAt
import Derived.Deep.RegionLaw
namespace Go.Proofs.Ytcejeiakgmamdac.Wk
set_option linter.unusedVariables false
open Go.ChangeShapes Go.WideShapes Go.ChangeAt Go.RowKit

theorem Zv_app (l m : List Int) : Zv (l ++ m) = Zv l ++ Zv m := by simp [Zv]
theorem Zv_one (l : List Int) : ∀ u ∈ Zv l, u.oneCell' = true := by
  intro u hu
  obtain ⟨z, -, rfl⟩ := List.mem_map.1 hu
  exact oneZ_one _ (List.mem_singleton.2 rfl)
theorem wp_appZ (w : World) {o : Oper} {a : Act} {K : Act → World → Prop} {Q : Exit → Act → World → Prop} (s x : Operand)
    (ho : o.op = .call { callee := .builtin .append, args := #[s, x], argTypes := #[32, 32] })
    (base : Nat) (v : Value) (xs : List Int) (hs : a.eval s = v) (hown : w.ownsRow base 3 1 v xs.length (Zv xs)) (b : Option Addr) (c : Nat) (ms : List Int) (hx : a.eval x = .slice b ms.length c) (hr : RdZ w b ms) (hbc : b = none → c = 0)
    (hl : xs.length + ms.length ≤ 1048576) (hbase : base ≤ w.heap.size)
    (h : ∀ v' w', w'.ownsRow base 3 1 v' (xs ++ ms).length (Zv (xs ++ ms)) → w.grownBy w' v.ownBlock → K (a.put o.dst v') w') : o.wp Try.prog a w K Q := by
  obtain ⟨j0, hj0, hy0, hy1, hy2⟩ := info_parts infoZ
  cases b with
  | none =>
    have hm : ms = [] := by
      cases ms with
      | nil => rfl
      | cons y r =>
        obtain ⟨_, _, e, _⟩ := hr 0 (by simp)
        cases e
    subst hm
    obtain rfl := hbc rfl
    have hrun := run_append_owned_none (P := Try.prog) (w := w) base 32 o.type 3 j0 1 Try.underlying32 hj0 v xs.length (Zv xs) hown
    have hk := h v w (by rw [List.append_nil]; exact hown) ⟨rfl, rfl, rfl, Nat.le_refl _, fun _ _ _ => rfl⟩
    unfold Oper.wp
    simp only [List.length_nil] at hx
    simp [execOp, ho, resolve, invoke, builtin, hs, hx, hrun, Result.andThen]
    exact hk
  | some ad =>
    refine wp_append_own w s x 32 ho base 3 j0 _ 1 8 Try.underlying32 hj0 hy0 hy1 hy2 rfl (by decide) v xs.length (Zv xs) hs hown ad ms.length c (Zv ms) hx (by simp [Zv]) ?_ (Zv_one ms) (by unfold maxLen; omega) (by omega) hbase ?_
    · intro j u hj
      have hjl : j < ms.length := by
        have := (List.getElem?_eq_some_iff.1 hj).1
        simpa [Zv] using this
      obtain ⟨b', off, e, hc⟩ := hr j hjl
      simp only [Option.some.injEq] at e
      subst e
      have hu : u = .int .i64 ms[j] := by
        simp [Zv, hjl] at hj
        exact hj.symm
      rw [hu, show (⟨b', off, none⟩ : Addr).add j = ⟨b', off + j, none⟩ from by simp [Addr.add]]
      exact hc
    · intro v' w' h2 h3 _
      exact h v' w' (by rw [List.length_append, Zv_app]; exact h2) h3
theorem wpList_appZ (w : World) {ops : Array Oper} {rest : List Oper} {o : Oper} {a : Act} {Q : Exit → Act → World → Prop} (hgd : o.guard = none) (s x : Operand)
    (ho : o.op = .call { callee := .builtin .append, args := #[s, x], argTypes := #[32, 32] })
    (base : Nat) (v : Value) (xs : List Int) (hs : a.eval s = v) (hown : w.ownsRow base 3 1 v xs.length (Zv xs)) (b : Option Addr) (c : Nat) (ms : List Int) (hx : a.eval x = .slice b ms.length c) (hr : RdZ w b ms) (hbc : b = none → c = 0)
    (hl : xs.length + ms.length ≤ 1048576) (hbase : base ≤ w.heap.size)
    (h : ∀ v' w', w'.ownsRow base 3 1 v' (xs ++ ms).length (Zv (xs ++ ms)) → w.grownBy w' v.ownBlock → wpList Try.prog ops Q rest (a.put o.dst v') w') : wpList Try.prog ops Q (o :: rest) a w :=
  wpList_plain hgd fun _ hK => wp_appZ w s x ho base v xs hs hown b c ms hx hr hbc hl hbase fun v' w' h2 h3 => hK _ _ (h v' w' h2 h3)
theorem step_appZ (w : World) {ops : Array Oper} {o : Oper} {a : Act} {K : Act → World → Prop} {Q : Exit → Act → World → Prop} {E : Prop} (hgd : o.guard = none) (s x : Operand)
    (ho : o.op = .call { callee := .builtin .append, args := #[s, x], argTypes := #[32, 32] })
    (base : Nat) (v : Value) (xs : List Int) (hs : a.eval s = v) (hown : w.ownsRow base 3 1 v xs.length (Zv xs)) (b : Option Addr) (c : Nat) (ms : List Int) (hx : a.eval x = .slice b ms.length c) (hr : RdZ w b ms) (hbc : b = none → c = 0)
    (hl : xs.length + ms.length ≤ 1048576) (hbase : base ≤ w.heap.size)
    (h : ∀ v' w', w'.ownsRow base 3 1 v' (xs ++ ms).length (Zv (xs ++ ms)) → w.grownBy w' v.ownBlock → K (a.put o.dst v') w') :
    if Region.wanted o (yielded ops a.tmps) = true then Oper.wp Try.prog o a w K Q else E := by
  have hw : Region.wanted o (yielded ops a.tmps) = true := by simp [Region.wanted, hgd]
  rw [if_pos hw]
  exact wp_appZ w s x ho base v xs hs hown b c ms hx hr hbc hl hbase h
theorem emptyZ (w : World) : (w.alloc (.cells #[] 3)).ownsRow w.heap.size 3 1 (.slice (some ⟨w.heap.size, 0, none⟩) 0 0) ([] : List Int).length (Zv []) := World.ownsRow_made w #[] 0 (Nat.le_refl _) (Nat.zero_le _) rfl
theorem oneRd (w : World) (z : Int) : RdZ (w.alloc (.cells #[.int .i64 z] 3)) (some ⟨w.heap.size, 0, none⟩) [z] := by
  intro i hi
  have e : i = 0 := by simp at hi; omega
  subst e
  exact ⟨w.heap.size, 0, rfl, by rw [World.cell?_alloc_at _ _ _ _ rfl]; rfl⟩

theorem emptyB (w : World) (base : Nat) (h : base ≤ w.heap.size) : (w.alloc (.cells #[] 3)).ownsRow base 3 1 (.slice (some ⟨w.heap.size, 0, none⟩) 0 0) ([] : List Int).length (Zv []) := World.ownsRow_made w #[] 0 h (Nat.zero_le _) rfl
theorem ownD {w : World} {base e n : Nat} {v : Value} {xs : List Value} (h : w.ownsRow base e 1 v n xs) : w.drew.ownsRow base e 1 v n xs := h
theorem rdD {w : World} {a : Option Addr} {l : List Int} (h : RdZ w a l) : RdZ w.drew a l := h
theorem rdzG {w w' : World} {H : Nat} {l : List Int} {r : Option Nat} (h : RdZ w (some ⟨H, 0, none⟩) l) (hg : w.grownBy w' r) (hne : some H ≠ r) : RdZ w' (some ⟨H, 0, none⟩) l := by
  intro i hi
  obtain ⟨b, off, e, hc⟩ := h i hi
  cases e
  exact ⟨H, 0, rfl, hg.cell hc hne⟩
theorem rdFar8 {w : World} {g H : Nat} {l : List Int} {u : Value} (h : RdZ w (some ⟨g, 0, none⟩) l) (h0 : 0 < l.length) (hk : w.cell? ⟨H, 0, none⟩ = some (.slice none 0 0)) : RdZ (w.setCell ⟨H, 0, none⟩ u) (some ⟨g, 0, none⟩) l := by
  intro i hi
  have hgH : g ≠ H := by
    rintro rfl
    obtain ⟨b, off, e, hc⟩ := h 0 h0
    cases e
    rw [Nat.add_zero, hk] at hc
    cases hc
  obtain ⟨b, off, e, hc⟩ := h i hi
  cases e
  exact ⟨g, 0, rfl, by rw [World.cell?_setCell_other _ _ _ _ (fun e => hgH (congrArg Addr.block e).symm)]; exact hc⟩
theorem step_appL (w : World) {ops : Array Oper} {o : Oper} {a : Act} {K : Act → World → Prop} {Q : Exit → Act → World → Prop} {E : Prop} (hgd : o.guard = none) (s x : Operand)
    (ho : o.op = .call { callee := .builtin .append, args := #[s, x], argTypes := #[32, 32] })
    (wd : World) (hB : Below wd.heap.size wd w) (v : Value) (xs : List Int) (hs : a.eval s = v) (hown : w.ownsRow wd.heap.size 3 1 v xs.length (Zv xs)) (b : Option Addr) (c : Nat) (ms : List Int) (hx : a.eval x = .slice b ms.length c) (hr : RdZ w b ms) (hbc : b = none → c = 0)
    (hl : xs.length + ms.length ≤ 1048576)
    (h : ∀ v' w', w'.ownsRow wd.heap.size 3 1 v' (xs ++ ms).length (Zv (xs ++ ms)) → w.grownBy w' v.ownBlock → (v'.ownBlock = v.ownBlock ∨ v'.ownBlock = some w.heap.size) → Below wd.heap.size wd w' → K (a.put o.dst v') w') :
    if Region.wanted o (yielded ops a.tmps) = true then Oper.wp Try.prog o a w K Q else E := by
  have hw : Region.wanted o (yielded ops a.tmps) = true := by simp [Region.wanted, hgd]
  rw [if_pos hw]
  obtain ⟨j0, hj0, hy0, hy1, hy2⟩ := info_parts infoZ
  have hlow : ∀ j, v.ownBlock = some j → wd.heap.size ≤ j := fun j e => (World.ownsRow.lt hown j e).1
  cases b with
  | none =>
    have hm : ms = [] := by
      cases ms with
      | nil => rfl
      | cons y r =>
        obtain ⟨_, _, e, _⟩ := hr 0 (by simp)
        cases e
    subst hm
    obtain rfl := hbc rfl
    have hrun := run_append_owned_none (P := Try.prog) (w := w) wd.heap.size 32 o.type 3 j0 1 Try.underlying32 hj0 v xs.length (Zv xs) hown
    have hk := h v w (by rw [List.append_nil]; exact hown) ⟨rfl, rfl, rfl, Nat.le_refl _, fun _ _ _ => rfl⟩ (.inl rfl) hB
    unfold Oper.wp
    simp only [List.length_nil] at hx
    simp [execOp, ho, resolve, invoke, builtin, hs, hx, hrun, Result.andThen]
    exact hk
  | some ad =>
    have hnews : ∀ j u, (Zv ms)[j]? = some u → w.cell? (ad.add j) = some u := by
      intro j u hj
      have hjl : j < ms.length := by
        have := (List.getElem?_eq_some_iff.1 hj).1
        simpa [Zv] using this
      obtain ⟨b', off, e, hc⟩ := hr j hjl
      simp only [Option.some.injEq] at e
      subst e
      have hu : u = .int .i64 ms[j] := by
        simp [Zv, hjl] at hj
        exact hj.symm
      rw [hu, show (⟨b', off, none⟩ : Addr).add j = ⟨b', off + j, none⟩ from by simp [Addr.add]]
      exact hc
    obtain ⟨v', w', hrun, h2, h3, -, h5⟩ := run_append_own_at (P := Try.prog) w wd.heap.size 32 o.type 3 j0 (.int .i64 0) 1 8 Try.underlying32 hj0 hy0 hy1 hy2 rfl (by decide) v xs.length (Zv xs) hown ad ms.length c (Zv ms) (by simp [Zv]) hnews (Zv_one ms) (by unfold maxLen; omega) (by omega) hB.size
    unfold Oper.wp execOp
    simp only [ho, resolve, invoke, builtin, Sem.run_bind, Sem.run_pure, Result.andThen_ok, List.map_toArray, List.map_cons, List.map_nil, hs, hx, hrun]
    exact h v' w' (by rw [List.length_append, Zv_app]; exact h2) h3 h5 (hB.grown h3 hB.size hlow)

set_option maxHeartbeats 1000000 in
set_option maxRecDepth 100000 in
theorem lawHas (a : Option Addr) (cap : Nat) (R : List Int) (z : Int) (w : World) (hl : R.length ≤ 1048576) (hr : RdZ w a R) :
    Calls Try.prog 24 #[.slice a R.length cap, .int .i64 z] w fun e w' => e = .returned (.bool (decide (z ∈ R))) ∧ w' = w := by
  obtain ⟨K, hK⟩ : ∃ K, decide (z ∈ R) = K := ⟨_, rfl⟩
  have HK : Hid (decide (z ∈ R) = K) := hK
  rw [hK]
  clear hK
  go_enter Try.func24, Try.ntmps24
  go_wp2
  go_loop [5] (fun i => ∃ k : Nat, k ≤ R.length ∧ i = .int .i64 k ∧ Hid (∀ j (h : j < R.length), j < k → ¬ R[j] = z)) (fun i => R.length - (intOf i).toNat)
  case atStart => exact ⟨0, Nat.zero_le _, rfl, fun j h hj => by omega⟩
  case round =>
    obtain ⟨k, hk, rfl, HN⟩ := hrel
    by_cases hlt : k < R.length
    · obtain ⟨b, off, rfl, hc⟩ := hr k hlt
      have hm : R[k] ∈ R := List.getElem_mem hlt
      have HN2 : ¬ R[k] = z → Hid (∀ j (h : j < R.length), j < k + 1 → ¬ R[j] = z) := fun hn j h hj => by
        by_cases e : j = k
        · subst e; exact hn
        · exact HN.out j h (by omega)
      by_cases he : R[k] = z
      · have hKt : K = true := by rw [← HK.out, ← he]; simp
        subst hKt
        rw [he] at hc
        clear HN2 HN HK
        go_wp2
        go_ret
        exact ⟨rfl, rfl⟩
      · have HN3 := HN2 he
        clear HN2 hm
        generalize R[k] = y at hc he
        go_wp2
        go_round
        case rel => exact ⟨k + 1, by omega, by go_num, HN3⟩
        case measure => simp [intOf]; omega
    · have hKf : K = false := by
        rw [← HK.out]
        apply decide_eq_false
        intro hz
        obtain ⟨m, hm, hmz⟩ := List.mem_iff_getElem.1 hz
        exact HN.out m hm (by omega) hmz
      subst hKf
      clear HN HK
      go_wp2
      go_ret
      exact ⟨rfl, rfl⟩
end Go.Proofs.Ytcejeiakgmamdac.Wk
